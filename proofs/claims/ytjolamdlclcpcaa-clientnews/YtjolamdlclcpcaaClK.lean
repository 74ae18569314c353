/- Walks of the document's answers to a client: ClientSent, ClientDone. -/
import Derived.Test.YtjolamdlclcpcaaClJ
namespace Go.Proofs.Ytjolamdlclcpcaa
open Go.RowKit

theorem ret_Sent {W : World} {R X : Nat} {p n : Int} {a : Option Addr} {m c : Nat} {wh : Nat → Int} {v : Ev} {e : Int} {tmps : Array Value} (d : cBlock W R p n a m c wh) (d' : eBlock W X v) (t4 : tmps[4]? = some (.pointer (some ⟨R, 0, none⟩))) (t5 : tmps[5]? = some (.pointer (some ⟨X, 0, none⟩))) (t6 : tmps[6]? = some (.int .i64 e)) :
    (results Try.f20 tmps).run Try.prog W = .ok (.tuple #[cVal p n a m c wh, evIn v, .int .i64 e]) W := by
  simp [results, Try.results20, t4, t5, t6, asAddr, load_client d, load_event d']
/-- a client and the two boxes of the answer. -/
structure S3 (w W : World) (C : Cl) (a : Option Addr) (c : Nat) : Prop where
  cb : cBlock W w.heap.size C.p C.n a C.es.length c C.wh
  zb : cBlock W (w.heap.size + 1) 0 0 none 0 0 (fun _ => 0)
  eb : eBlock W (w.heap.size + 2) Ev.nil
  bel : Below w.heap.size w W
  sz : w.heap.size + 3 ≤ W.heap.size
theorem S3.next {w W W' : World} {C : Cl} {a : Option Addr} {c : Nat} (h : S3 w W C a c) (b : Below W.heap.size W W') : S3 w W' C a c :=
  ⟨h.cb.next b, h.zb.next b, h.eb.next b, Below.next h.bel b, Nat.le_trans h.sz b.size⟩
/-- a refusal is stored. -/
theorem S3.out {w W : World} {C : Cl} {a : Option Addr} {c : Nat} (h : S3 w W C a c) : ∃ W', W' = ((((((((((((W.setCell ⟨w.heap.size + 1, 0, none⟩ (.int .i64 0)).setCell ⟨w.heap.size + 1, 1, none⟩ (.int .i64 0)).setCell ⟨w.heap.size + 1, 2, none⟩ (.slice none 0 0)).setCell ⟨w.heap.size + 1, 3, none⟩ (.int .i64 0)).setCell ⟨w.heap.size + 1, 4, none⟩ (.int .i64 0)).setCell ⟨w.heap.size + 1, 5, none⟩ (.int .i64 0)).setCell ⟨w.heap.size + 1, 6, none⟩ (.int .i64 0)).setCell ⟨w.heap.size + 2, 0, none⟩ (.int .i64 0)).setCell ⟨w.heap.size + 2, 1, none⟩ (.int .i64 0)).setCell ⟨w.heap.size + 2, 2, none⟩ (.int .i64 0)).setCell ⟨w.heap.size + 2, 3, none⟩ (.int .i64 0)).setCell ⟨w.heap.size + 2, 4, none⟩ (.int .i64 0)).setCell ⟨w.heap.size + 2, 5, none⟩ (.int .i64 0) ∧
    cBlock W' (w.heap.size + 1) 0 0 none 0 0 (fun _ => 0) ∧ eBlock W' (w.heap.size + 2) Ev.nil ∧ Below w.heap.size w W' := by
  obtain ⟨W4, hW4, cb4, B4, tn4⟩ := c_stored h.zb h.bel (by omega) 0 0 none 0 0 (fun _ => 0)
  obtain ⟨W5, hW5, eb5, B5, tn5⟩ := e_stored (h.eb.turned tn4 (by omega)) B4 (by omega) 0 0 0 0 0 0
  subst hW4
  exact ⟨W5, hW5, cb4.turned tn5 (by omega), eb5, B5⟩
/-- none of the first k is too far behind. -/
def NotFull (C : Cl) (k : Nat) : Prop := ∀ j (hj : j < C.es.length), j < k → ¬ C.es[j].i + 8 ≤ C.n
set_option maxRecDepth 20000 in
set_option maxHeartbeats 8000000 in
theorem sent_any (C : Cl) (a : Option Addr) (c : Nat) (b : Int) (w : World) (h : CIn w C a c) :
    Calls Try.prog 20 #[cVal C.p C.n a C.es.length c C.wh, .int .i64 b] w fun e w' => ∃ x, e = .returned x ∧ SendOut w w' C b x ∧ Below w.heap.size w w' := by
  have HC : Hid (∀ W, Below w.heap.size w W → CIn W C a c) := veil fun W b => h.next b
  have hwf := h.row.wf
  clear h
  obtain ⟨W, hW, cb, zb, eb, B0, hsz⟩ := three_cl w C.p C.n a C.es.length c C.wh
  have HC1 := cfault_any C a c W (unveil HC W B0)
  have HB : Hid (S3 w W C a c) := veil ⟨cb, zb, eb, B0, by omega⟩
  clear zb eb B0 hsz
  by_cases ok : C.Ok
  case neg =>
    rw [show clFault C = 6 from if_neg ok] at HC1
    clear HC
    go_enter Try.func20, Try.ntmps20
    go_upto_region 1 with fail
    rw [← hW]
    clear hW
    obtain ⟨c0, c1, c2, c3, c4, c5, c6⟩ := cb.cells
    clear cb
    go_wp2_with (go_at_call 15; refine HC1.mono ?_; rintro e W1 ⟨rfl, d1⟩; clear HC1 c0 c1 c2 c3 c4 c5 c6; obtain ⟨z0, z1, z2, z3, z4, z5, z6⟩ := ((unveil HB).next d1).zb.cells; have zf := ((unveil HB).next d1).zb.free; obtain ⟨e0, e1, e2, e3, e4, e5⟩ := ((unveil HB).next d1).eb.cells; have ef := ((unveil HB).next d1).eb.free)
    obtain ⟨W5, hW5, cb5, eb5, B5⟩ := ((unveil HB).next d1).out
    rw [← hW5]
    exact bodyPost_ret (ret_Sent cb5 eb5 rfl rfl rfl) rfl ⟨_, rfl, ⟨Cl.zero, _, Ev.nil, 6, rfl, .state ok, COut.zero _ _⟩, B5⟩
  case pos =>
  rw [show clFault C = 0 from if_pos ok] at HC1
  have HIb := fun w => cIn_any b 0 1000000 w
  by_cases hb : 0 ≤ b ∧ b ≤ 1000000
  case neg =>
    rw [decide_eq_false hb] at HIb
    clear HC
    go_enter Try.func20, Try.ntmps20
    go_upto_region 1 with fail
    rw [← hW]
    clear hW
    obtain ⟨c0, c1, c2, c3, c4, c5, c6⟩ := cb.cells
    clear cb
    go_wp2_with (first
      | (go_at_call 15; refine HC1.mono ?_; rintro e W1 ⟨rfl, d1⟩; clear HC1 c0 c1 c2 c3 c4 c5 c6; obtain ⟨z0, z1, z2, z3, z4, z5, z6⟩ := ((unveil HB).next d1).zb.cells; have zf := ((unveil HB).next d1).zb.free; obtain ⟨e0, e1, e2, e3, e4, e5⟩ := ((unveil HB).next d1).eb.cells; have ef := ((unveil HB).next d1).eb.free)
      | (go_at_call 35; refine (HIb _).mono ?_; rintro e w2 ⟨rfl, hw2⟩; subst w2; clear HIb))
    obtain ⟨W5, hW5, cb5, eb5, B5⟩ := ((unveil HB).next d1).out
    rw [← hW5]
    exact bodyPost_ret (ret_Sent cb5 eb5 rfl rfl rfl) rfl ⟨_, rfl, ⟨Cl.zero, _, Ev.nil, 2, rfl, .range ok hb, COut.zero _ _⟩, B5⟩
  case pos =>
  rw [decide_eq_true hb] at HIb
  have hl := ok.len
  have hn0 := ok.n0
  have hn1 := ok.n1
  have HOK : Hid (C.Ok ∧ (0 ≤ b ∧ b ≤ 1000000)) := veil ⟨ok, hb⟩
  have HWF : Hid (∀ u ∈ evFlat C.es ++ evCells (C.newEv b), (Lit.int .i64 u).wf = true) := veil fun u hu => by
    rcases List.mem_append.1 hu with h | h
    · exact hwf u h
    · exact evCells_wf ok hb u h
  have HO : Hid (∀ W, Below w.heap.size w W → Calls Try.prog 34 #[cVal C.p C.n a C.es.length c C.wh] W fun e w' => ∃ a' c', e = .returned (cVal C.p C.n a' C.es.length c' C.wh) ∧ w'.ownsRow (W.heap.size + 2) 37 6 (.slice a' C.es.length c') C.es.length ((evFlat C.es).map (Value.int .i64)) ∧ Below W.heap.size W w') := veil fun W b => ccopy_any C a c W (unveil HC W b)
  have HFUL : Hid (C.full → SendR C b Cl.zero Ev.nil 14) := veil fun hf => .full ok hb hf
  have HEND : Hid (¬ C.full → ∀ (W9 : World) (a' : Option Addr) (c' : Nat), W9.ownsRow (w.heap.size + 2) 37 6 (.slice a' (C.es.length + 1) c') (C.es.length + 1) ((evFlat C.es ++ evCells (C.newEv b)).map (Value.int .i64)) → SendOut w W9 C b (.tuple #[cVal C.p (C.n + 1) a' (C.es.length + 1) c' C.wh, evIn (C.newEv b), .int .i64 0])) := veil fun hfl W9 a' c' o => by
    obtain ⟨a3, k3, e3, r3, l3, _, n3, u3⟩ := RowK.ofMany o (unveil HWF)
    cases e3
    have hlen : (C.es ++ [C.newEv b]).length = C.es.length + 1 := by simp
    refine ⟨_, _, _, _, rfl, .sent (unveil HOK).1 (unveil HOK).2 hfl, ⟨a', c', by rw [hlen], ⟨?_, ?_, n3, ?_⟩, fun x hx => by have := u3 x hx; omega⟩⟩
    · show RowK .i64 W9 a' (6 * (C.es ++ [C.newEv b]).length) (evFlat (C.es ++ [C.newEv b]))
      rw [hlen, evFlat_snoc]
      exact r3
    · show (C.es ++ [C.newEv b]).length ≤ c'
      rw [hlen]; exact l3
    · show (C.es ++ [C.newEv b]).length * 48 ≤ _
      rw [hlen]; omega
  have HID : Hid (∀ k (hk : k < C.es.length), 0 ≤ C.es[k].i ∧ C.es[k].i ≤ 1073741824) := veil fun k hk => by
    obtain ⟨h1, h2, _⟩ := okW_mem ok.w C.es[k] (List.getElem_mem hk)
    unfold Ev.Ok at h1
    rw [h2] at h1
    exact pub_id h1
  clear HWF HOK ok hb hwf
  obtain ⟨i6, hi6, hz60, hz61, hz62⟩ := info_of Try.infoEvent
  go_enter Try.func20, Try.ntmps20
  go_upto_region 1 with fail
  rw [← hW]
  clear hW
  obtain ⟨c0, c1, c2, c3, c4, c5, c6⟩ := cb.cells
  clear cb
  go_upto_region 7 with (first
      | (go_at_call 15; refine HC1.mono ?_; rintro e W1 ⟨rfl, d1⟩; clear HC1 c0 c1 c2 c3 c4 c5 c6)
      | (go_at_call 35; refine (HIb _).mono ?_; rintro e w2 ⟨rfl, hw2⟩; subst w2; clear HIb))
  have HB1 := veil ((unveil HB).next d1)
  clear HB d1
  go_loopw [8] (fun i wr => ∃ k : Nat, k ≤ C.es.length ∧ i = .int .i64 k ∧ Hid (NotFull C k) ∧ Hid (S3 w wr C a c)) (fun i _ => C.es.length - (intOf i).toNat)
  case atStart => exact ⟨0, Nat.zero_le _, rfl, veil (fun j _ hj => by omega), HB1⟩
  case round =>
    obtain ⟨k, hk, rfl, HJ, HS⟩ := hrel
    clear HB1
    by_cases hlt : k < C.es.length
    case pos =>
      have hr := (unveil HC wr (unveil HS).bel).row
      obtain ⟨bb, off, rfl⟩ := hr.form (by omega)
      obtain ⟨_, _, x2, _, _, _⟩ := row_event hr k hlt
      obtain ⟨hi0, hi1⟩ := unveil HID k hlt
      obtain ⟨vi, hvi⟩ : ∃ vi, vi = C.es[k].i := ⟨_, rfl⟩
      rw [← hvi] at x2 hi0 hi1
      have HVI := veil hvi
      clear hr hvi
      obtain ⟨c0, c1, c2, _⟩ := (unveil HS).cb.cells
      by_cases hle : vi + 8 ≤ C.n
      · have HR := unveil HFUL (.inr ⟨_, List.getElem_mem hlt, by rw [← unveil HVI]; exact hle⟩)
        have HRR := veil HR
        have hle' : decide (vi + 8 ≤ C.n) = true := by simpa using hle
        clear HR hle HFUL HEND HID
        go_wp2_with fail
        go_quiet (fail)
        have HS1 := veil ((unveil HS).next (belowN wr nq))
        clear c0 c1 c2 x2 HS
        obtain ⟨V, hV⟩ : ∃ V, V = wr.drewN nq := ⟨_, rfl⟩
        rw [← hV] at HS1 ⊢
        clear hV
        obtain ⟨z0, z1, z2, z3, z4, z5, z6⟩ := (unveil HS1).zb.cells
        have zf := (unveil HS1).zb.free
        obtain ⟨e0, e1, e2, e3, e4, e5⟩ := (unveil HS1).eb.cells
        have ef := (unveil HS1).eb.free
        go_wp2
        obtain ⟨W5, hW5, cb5, eb5, B5⟩ := (unveil HS1).out
        rw [← hW5]
        exact bodyPost_ret (ret_Sent cb5 eb5 rfl rfl rfl) rfl ⟨_, rfl, ⟨Cl.zero, _, Ev.nil, 14, rfl, unveil HRR, COut.zero _ _⟩, B5⟩
      · have hle' : decide (vi + 8 ≤ C.n) = false := by simpa using hle
        have HJ2 : Hid (NotFull C (k + 1)) := veil fun j hj hjk => by
          rcases Nat.lt_or_ge j k with h1 | h1
          · exact unveil HJ j hj h1
          · obtain rfl : j = k := by omega
            rw [← unveil HVI]; exact hle
        clear hle
        go_wp2_with fail
        go_quiet (fail)
        have HS1 := veil ((unveil HS).next (belowN wr nq))
        clear c0 c1 c2 x2 HS
        go_wp2
        go_roundw
        case rel => exact ⟨k + 1, by omega, by go_num, HJ2, HS1⟩
        case measure => simp [intOf]; omega
    case neg =>
      obtain rfl : k = C.es.length := by omega
      obtain ⟨c0, c1, c2, c3, c4, c5, c6⟩ := (unveil HS).cb.cells
      by_cases hm : C.n = 1073741824
      · have HRR := veil (unveil HFUL (.inl hm))
        have hm' : (C.n == (1073741824 : Int)) = true := by simpa using hm
        clear HFUL HEND HID HJ HC HO hm
        obtain ⟨z0, z1, z2, z3, z4, z5, z6⟩ := (unveil HS).zb.cells
        have zf := (unveil HS).zb.free
        obtain ⟨e0, e1, e2, e3, e4, e5⟩ := (unveil HS).eb.cells
        have ef := (unveil HS).eb.free
        go_wp2
        obtain ⟨W5, hW5, cb5, eb5, B5⟩ := (unveil HS).out
        rw [← hW5]
        exact bodyPost_ret (ret_Sent cb5 eb5 rfl rfl rfl) rfl ⟨_, rfl, ⟨Cl.zero, _, Ev.nil, 14, rfl, unveil HRR, COut.zero _ _⟩, B5⟩
      · have hm' : (C.n == (1073741824 : Int)) = false := by simpa using hm
        have hn2 : C.n < 1073741824 := by omega
        have HEND2 := veil (unveil HEND (by
          rintro (h | ⟨v, hv, h⟩)
          · exact hm h
          · obtain ⟨j, hj, rfl⟩ := List.mem_iff_getElem.1 hv
            exact unveil HJ j hj hj h))
        clear HFUL HEND HID HJ HC hm
        obtain ⟨p, n, es, wh⟩ := C
        simp only [Cl.newEv, evCells] at *
        have hlt1 : w.heap.size < wr.heap.size := by have := (unveil HS).sz; omega
        have hne1 : w.heap.size ≠ wr.heap.size := by omega
        go_upto_region 14 with fail
        obtain ⟨W2, hW2, S2, vb2, hs2⟩ : ∃ W2, W2 = wr.alloc (.cells #[.int .i64 1, .int .i64 p, .int .i64 n, .int .i64 b, .int .i64 0, .int .i64 0] 37) ∧ S3 w W2 ⟨p, n, es, wh⟩ a c ∧ eBlock W2 wr.heap.size ⟨1, p, n, b, 0, 0⟩ ∧ (w.heap.size + 3 ≤ wr.heap.size ∧ W2.heap.size = wr.heap.size + 1) :=
          ⟨_, rfl, (unveil HS).next (below1 _ _), heap_alloc_new _ _, (unveil HS).sz, by simp⟩
        rw [← hW2]
        clear hW2 c0 c1 c2 c3 c4 c5 c6 HS hlt1 hne1
        generalize wr.heap.size = X at *
        obtain ⟨c0, c1, c2, c3, c4, c5, c6⟩ := S2.cb.cells
        have HO1 := unveil HO W2 S2.bel
        have H2 := veil (And.intro S2 (And.intro vb2 hs2))
        clear S2 vb2 hs2 HO
        go_upto_region 15 with (go_at_call 34; refine HO1.mono ?_; rintro e W3 ⟨a3, k3, rfl, o3, d3⟩; clear HO1 c0 c1 c2 c3 c4 c5 c6; have HO3 := veil o3; have HD3 := veil d3; clear o3 d3)
        obtain ⟨W4, hW4, S4, vb4, yb4, O4, hY⟩ : ∃ W4, W4 = W3.alloc (.cells (cCells p n a3 es.length k3 wh) 25) ∧ S3 w W4 ⟨p, n, es, wh⟩ a c ∧ eBlock W4 X ⟨1, p, n, b, 0, 0⟩ ∧ cBlock W4 W3.heap.size p n a3 es.length k3 wh ∧ W4.ownsRow (X + 1) 37 6 (.slice a3 es.length k3) es.length ((evFlat es).map (Value.int .i64)) ∧ (w.heap.size + 3 ≤ X ∧ X + 1 ≤ W3.heap.size ∧ W4.heap.size = W3.heap.size + 1 ∧ ∀ g, (Value.slice a3 es.length k3).ownBlock = some g → g < W3.heap.size) :=
          ⟨_, rfl, ((unveil H2).1.next (unveil HD3)).next (below1 _ _), ((unveil H2).2.1.next (unveil HD3)).next (below1 _ _), cBlock.new _ _ _ _ _ _ _, own_lower (own_still (unveil HO3) (fun g _ hg => (below1 _ _).block g hg)) (by have := (unveil H2).2.2.2; omega), (unveil H2).2.2.1, by have := (unveil H2).2.2.2; have := (unveil HD3).size; omega, by simp, fun g hg => ((unveil HO3).lt g hg).2⟩
        rw [← hW4]
        clear hW4 H2 HO3 HD3
        generalize W3.heap.size = Y at *
        obtain ⟨y0, y1, y2, y3, y4, y5, y6⟩ := yb4.cells
        have yf := yb4.free
        obtain ⟨v0, v1, v2, v3, v4, v5⟩ := vb4.cells
        obtain ⟨hX3, hXY, hY4, hYg⟩ := hY
        have hYn : Y ≠ W4.heap.size := by omega
        have hXn : X ≠ W4.heap.size := by omega
        have b5 : Below W4.heap.size W4 (W4.alloc (.cells #[.int .i64 1, .int .i64 p, .int .i64 n, .int .i64 b, .int .i64 0, .int .i64 0] 37)) := below1 _ _
        have HO5 : Hid ((W4.alloc (.cells #[.int .i64 1, .int .i64 p, .int .i64 n, .int .i64 b, .int .i64 0, .int .i64 0] 37)).ownsRow (X + 1) 37 6 (.slice a3 es.length k3) es.length ((evFlat es).map (Value.int .i64))) := veil (own_still O4 (fun g _ hg => b5.block g hg))
        have HG : Hid (∀ w6, (W4.alloc (.cells #[.int .i64 1, .int .i64 p, .int .i64 n, .int .i64 b, .int .i64 0, .int .i64 0] 37)).grownBy w6 (Value.slice a3 es.length k3).ownBlock → Below (X + 1) W4 w6 ∧ w6.heap[Y]? = W4.heap[Y]?) := veil fun w6 g => ⟨(b5.mono (show X + 1 ≤ W4.heap.size by omega)).grown g (by have := b5.size; omega) (fun q hq => (O4.lt q hq).1), (g.block Y (by have := b5.size; omega) (fun e => by have := hYg Y e.symm; omega)).trans (b5.block Y (by omega))⟩
        have H4 := veil (And.intro S4 (And.intro vb4 yb4))
        have HBL := veil hYg
        have HY4 := veil hY4
        clear S4 vb4 yb4 b5 O4 hYg hY4
        go_upto_region 16 with (at_builtin; refine wpList_append_own _ rfl _ _ 22 rfl (X + 1) 37 i6 _ 6 48 Try.underlying22 hi6 hz60 hz61 hz62 rfl (by decide) (.slice a3 es.length k3) es.length ((evFlat es).map (Value.int .i64)) rfl (unveil HO5) ⟨W4.heap.size, 0, none⟩ 1 1 ([1, p, n, b, 0, 0].map (Value.int .i64)) rfl rfl (news6 _ _ _ _ _ _ _ _) (ints_oneCell _ _) (by unfold maxLen; omega) (by omega) (by have := unveil HY4; simp; omega) ?_; intro v6 W6 own6 grow6 _; obtain ⟨a6, k6, rfl⟩ := own_form own6; rw [← List.map_append] at own6; have HO6 := veil own6; have d6 := unveil HG W6 grow6; have yb6 : cBlock W6 Y p n a3 es.length k3 wh := d6.2.trans (unveil H4).2.2; obtain ⟨y0, y1, y2, y3, y4, y5, y6⟩ := yb6.cells; have yf := yb6.free; have HD6 := veil (And.intro yb6 d6.1); clear own6 grow6 d6 yb6)
        obtain ⟨W7, hW7, yb7, tn7⟩ : ∃ W7, W7 = W6.setCell ⟨Y, 2, none⟩ (.slice a6 (es.length + 1) k6) ∧ cBlock W7 Y p n a6 (es.length + 1) k6 wh ∧ Turned Y W6 W7 :=
          ⟨_, rfl, (unveil HD6).1.wait _ _ _, Turned.set _ _ _ _⟩
        rw [← hW7]
        have B7 : Below w.heap.size w W7 := tn7.under ((unveil H4).1.bel.trans ((unveil HD6).2.mono (by omega))) (by omega)
        have cb7 := ((unveil H4).1.cb.below (unveil HD6).2 (by omega)).turned tn7 (by omega)
        have zb7 := ((unveil H4).1.zb.below (unveil HD6).2 (by omega)).turned tn7 (by omega)
        have eb7 : eBlock W7 (w.heap.size + 2) Ev.nil := eBlock.turned (((unveil HD6).2.block _ (by omega)).trans (unveil H4).1.eb) tn7 (by omega)
        have vb7 : eBlock W7 X ⟨1, p, n, b, 0, 0⟩ := eBlock.turned (((unveil HD6).2.block _ (by omega)).trans (unveil H4).2.1) tn7 (by omega)
        have hoff : ∀ g, (Value.slice a6 (es.length + 1) k6).ownBlock = some g → g ≠ Y := fun g hg => by
          rintro rfl
          rcases (unveil HO6).2 with ⟨h0, _⟩ | ⟨g', cap, cur, e, _, h3, _⟩
          · cases h0
          · cases e
            cases hg
            exact absurd (Option.some.inj (h3.symm.trans (unveil HD6).1)) (by intro h; injection h with h1 h2 h3; exact absurd h2 (by decide))
        have O7 := own_still (unveil HO6) (fun g hg _ => tn7.block g (hoff g hg))
        have HOFF := veil hoff
        clear hW7 y0 y1 y2 y3 y4 y5 y6 yf v0 v1 v2 v3 v4 v5 HO6 HD6 HO5 HG H4 hYn hXn hoff
        obtain ⟨c0, c1, c2, c3, c4, c5, c6⟩ := cb7.cells
        obtain ⟨y0, y1, y2, y3, y4, y5, y6⟩ := yb7.cells
        have yf := yb7.free
        have H7 := veil (And.intro yb7 (And.intro zb7 (And.intro eb7 (And.intro vb7 (And.intro B7 O7)))))
        clear cb7 yb7 zb7 eb7 vb7 B7 O7 tn7
        go_upto_region 17 with fail
        obtain ⟨W8, hW8, yb8, tn8⟩ : ∃ W8, W8 = W7.setCell ⟨Y, 1, none⟩ (.int .i64 (n + 1)) ∧ cBlock W8 Y p (n + 1) a6 (es.length + 1) k6 wh ∧ Turned Y W7 W8 :=
          ⟨_, rfl, (unveil H7).1.next' _, Turned.set _ _ _ _⟩
        rw [← hW8]
        have zb8 := (unveil H7).2.1.turned tn8 (by omega)
        have eb8 := (unveil H7).2.2.1.turned tn8 (by omega)
        have vb8 := (unveil H7).2.2.2.1.turned tn8 (by omega)
        have B8 := tn8.under (unveil H7).2.2.2.2.1 (by omega)
        have O8 := own_still (unveil H7).2.2.2.2.2 (fun g hg _ => tn8.block g (unveil HOFF g hg))
        clear hW8 c0 c1 c2 c3 c4 c5 c6 y0 y1 y2 y3 y4 y5 y6 yf
        generalize n + 1 = n1 at *
        obtain ⟨c0, c1, c2, c3, c4, c5, c6⟩ := yb8.cells
        obtain ⟨z0, z1, z2, z3, z4, z5, z6⟩ := zb8.cells
        obtain ⟨e0, e1, e2, e3, e4, e5⟩ := eb8.cells
        obtain ⟨v0, v1, v2, v3, v4, v5⟩ := vb8.cells
        have zf := zb8.free
        have ef := eb8.free
        have n1' : Y ≠ w.heap.size + 1 := by omega
        have n2' : Y ≠ w.heap.size + 2 := by omega
        have n3' : X ≠ w.heap.size + 1 := by omega
        have n4' : X ≠ w.heap.size + 2 := by omega
        have H8 := veil (And.intro zb8 (And.intro eb8 (And.intro B8 O8)))
        clear yb8 zb8 eb8 vb8 B8 O8 tn8 H7
        go_wp2_with fail
        go_region
        all_goals (try go_wp2)
        all_goals first
          | (obtain ⟨W9, hW9, cb9, B9, tn9⟩ := c_stored (unveil H8).1 (unveil H8).2.2.1 (by omega) p n1 a6 (es.length + 1) k6 wh
             obtain ⟨WA, hWA, ebA, BA, tnA⟩ := e_stored ((unveil H8).2.1.turned tn9 (by omega)) B9 (by omega) 1 p n b 0 0
             rw [hW9] at hWA
             rw [← hWA]
             have tB := turned_drew w.heap.size WA
             exact bodyPost_ret (ret_Sent ((cb9.turned tnA (by omega)).turned tB (by omega)) (ebA.turned tB (by omega)) rfl rfl rfl) rfl ⟨_, rfl, unveil HEND2 _ a6 k6 (own_lower (tB.own (tnA.own (tn9.own (unveil H8).2.2.2 (by omega)) (by omega)) (by omega)) (by omega)), tB.under BA (Nat.le_refl _)⟩)
          | (obtain ⟨W9, hW9, eb9, B9, tn9⟩ := e_stored (unveil H8).2.1 (unveil H8).2.2.1 (by omega) 1 p n b 0 0
             obtain ⟨WA, hWA, cbA, BA, tnA⟩ := c_stored ((unveil H8).1.turned tn9 (by omega)) B9 (by omega) p n1 a6 (es.length + 1) k6 wh
             rw [hW9] at hWA
             rw [← hWA]
             have tB := turned_drew w.heap.size WA
             exact bodyPost_ret (ret_Sent (cbA.turned tB (by omega)) ((eb9.turned tnA (by omega)).turned tB (by omega)) rfl rfl rfl) rfl ⟨_, rfl, unveil HEND2 _ a6 k6 (own_lower (tB.own (tnA.own (tn9.own (unveil H8).2.2.2 (by omega)) (by omega)) (by omega)) (by omega)), tB.under BA (Nat.le_refl _)⟩)
end Go.Proofs.Ytjolamdlclcpcaa
