/- The walk of the document's answer ClientDone. -/
import Derived.Test.YtjolamdlclcpcaaClK
namespace Go.Proofs.Ytjolamdlclcpcaa
open Go.RowKit

theorem ret_refDone {W : World} {R : Nat} {p n : Int} {a : Option Addr} {m c : Nat} {wh : Nat → Int} {e : Int} {tmps : Array Value} (d : cBlock W R p n a m c wh) (t4 : tmps[4]? = some (.pointer (some ⟨R, 0, none⟩))) (t5 : tmps[5]? = some (.int .i64 e)) :
    (results Try.f22 tmps).run Try.prog W = .ok (.tuple #[cVal p n a m c wh, .int .i64 e]) W := by
  simp [results, Try.results22, t4, t5, asAddr, load_client d]
/-- those of the first k that have another id. -/
def keepsOf (id : Int) (es : List Ev) (k : Nat) : List Ev := (es.take k).filter fun v => v.i != id
theorem keeps_yes {id : Int} {es : List Ev} {k : Nat} (hk : k < es.length) (h : ¬ es[k].i = id) : keepsOf id es (k + 1) = keepsOf id es k ++ [es[k]] := by
  unfold keepsOf
  rw [List.take_succ_eq_append_getElem hk, List.filter_append]
  simp [h]
theorem keeps_no {id : Int} {es : List Ev} {k : Nat} (hk : k < es.length) (h : es[k].i = id) : keepsOf id es (k + 1) = keepsOf id es k := by
  unfold keepsOf
  rw [List.take_succ_eq_append_getElem hk, List.filter_append]
  simp [h]
theorem keeps_len (id : Int) (es : List Ev) (k : Nat) : (keepsOf id es k).length ≤ k :=
  Nat.le_trans (List.length_filter_le _ _) (by simp; omega)
theorem keeps_all {id : Int} {es : List Ev} (h : es.Pairwise fun u v => u.i < v.i) :
    ((keepsOf id es es.length).length = es.length ∧ ∀ v ∈ es, ¬ v.i = id) ∨ (¬ (keepsOf id es es.length).length = es.length ∧ ∃ k, ∃ hk : k < es.length, es[k].i = id ∧ keepsOf id es es.length = es.eraseIdx k) := by
  unfold keepsOf
  rw [List.take_length]
  by_cases hx : ∃ v ∈ es, v.i = id
  · obtain ⟨v, hv, hi⟩ := hx
    obtain ⟨k, hk, rfl⟩ := List.mem_iff_getElem.1 hv
    have e : es.filter (fun v => v.i != id) = es.eraseIdx k := by
      clear hv
      induction es generalizing k with
      | nil => exact absurd hk (Nat.not_lt_zero _)
      | cons u es ih =>
        have hp := List.pairwise_cons.1 h
        cases k with
        | zero =>
          simp only [List.getElem_cons_zero] at hi
          rw [List.eraseIdx_cons_zero, List.filter_cons_of_neg (by simp [hi]), List.filter_eq_self.2]
          intro v hv
          have := hp.1 v hv
          simp only [bne_iff_ne, ne_eq]
          omega
        | succ k =>
          simp only [List.getElem_cons_succ] at hi
          have hk' : k < es.length := by simpa using hk
          have := hp.1 _ (List.getElem_mem hk')
          rw [List.eraseIdx_cons_succ, List.filter_cons_of_pos (by simp only [bne_iff_ne, ne_eq]; omega), ih hp.2 k hk' hi]
    refine .inr ⟨?_, k, hk, hi, e⟩
    rw [e, List.length_eraseIdx_of_lt hk]
    omega
  · refine .inl ⟨?_, fun v hv hi => hx ⟨v, hv, hi⟩⟩
    rw [List.filter_eq_self.2]
    intro v hv
    simp only [bne_iff_ne, ne_eq]
    exact fun hi => hx ⟨v, hv, hi⟩
/-- the boxes of ClientDone: the client, the answer, and what is to be answered. -/
structure D3 (w W : World) (C : Cl) (a : Option Addr) (c X : Nat) (E : List Ev) (a' : Option Addr) (c' : Nat) : Prop where
  cb : cBlock W w.heap.size C.p C.n a C.es.length c C.wh
  zb : cBlock W (w.heap.size + 1) 0 0 none 0 0 (fun _ => 0)
  yb : cBlock W X C.p C.n a' E.length c' C.wh
  own : W.ownsRow (X + 1) 37 6 (.slice a' E.length c') E.length ((evFlat E).map (Value.int .i64))
  bel : Below w.heap.size w W
  up : w.heap.size + 2 ≤ X
theorem D3.lt {w W : World} {C : Cl} {a : Option Addr} {c X : Nat} {E : List Ev} {a' : Option Addr} {c' : Nat} (h : D3 w W C a c X E a' c') : X < W.heap.size := h.yb.lt
set_option maxRecDepth 20000 in
set_option maxHeartbeats 8000000 in
theorem refDone_any (C : Cl) (a : Option Addr) (c : Nat) (id : Int) (w : World) (h : CIn w C a c) :
    Calls Try.prog 22 #[cVal C.p C.n a C.es.length c C.wh, .int .i64 id] w fun e w' => ∃ x, e = .returned x ∧ DoneOut w w' C id x ∧ Below w.heap.size w w' := by
  have HC : Hid (∀ W, Below w.heap.size w W → CIn W C a c) := veil fun W b => h.next b
  have hwf := h.row.wf
  clear h
  obtain ⟨W, hW, cb, zb, B0⟩ := two_cl w C.p C.n a C.es.length c C.wh
  have HC1 := cfault_any C a c W (unveil HC W B0)
  have HB := veil (And.intro cb (And.intro zb B0))
  by_cases ok : C.Ok
  case neg =>
    rw [show clFault C = 6 from if_neg ok] at HC1
    clear HC
    go_enter Try.func22, Try.ntmps22
    go_upto_region 1 with fail
    rw [← hW]
    clear hW
    obtain ⟨c0, c1, c2, c3, c4, c5, c6⟩ := cb.cells
    clear cb zb B0
    go_wp2_with (go_at_call 15; refine HC1.mono ?_; rintro e W1 ⟨rfl, d1⟩; clear HC1 c0 c1 c2 c3 c4 c5 c6; obtain ⟨z0, z1, z2, z3, z4, z5, z6⟩ := ((unveil HB).2.1.next d1).cells; have zf := ((unveil HB).2.1.next d1).free)
    obtain ⟨W4, hW4, cb4, B4, tn4⟩ := c_stored ((unveil HB).2.1.next d1) (Below.next (unveil HB).2.2 d1) (by omega) 0 0 none 0 0 (fun _ => 0)
    rw [← hW4]
    exact bodyPost_ret (ret_refDone cb4 rfl rfl) rfl ⟨_, rfl, ⟨Cl.zero, _, 6, rfl, .state ok, COut.zero _ _⟩, B4⟩
  case pos =>
  rw [show clFault C = 0 from if_pos ok] at HC1
  have hl := ok.len
  have HK := veil (keeps_all (id := id) (okW_rise ok.w))
  have HOK := veil ok
  have HWF := veil hwf
  clear ok hwf
  obtain ⟨i6, hi6, hz60, hz61, hz62⟩ := info_of Try.infoEvent
  go_enter Try.func22, Try.ntmps22
  go_upto_region 1 with fail
  rw [← hW]
  have hsz : W.heap.size = w.heap.size + 2 := by rw [hW]; simp
  have HSZ := veil hsz
  clear hW hsz
  obtain ⟨c0, c1, c2, c3, c4, c5, c6⟩ := cb.cells
  clear cb zb B0
  go_upto_region 4 with (go_at_call 15; refine HC1.mono ?_; rintro e W1 ⟨rfl, d1⟩; clear HC1 c0 c1 c2 c3 c4 c5 c6; obtain ⟨c0, c1, c2, c3, c4, c5, c6⟩ := ((unveil HB).1.next d1).cells)
  have hlt1 := ((unveil HB).1.next d1).lt
  have hne1 : w.heap.size ≠ W1.heap.size := by omega
  go_upto_region 5 with fail
  obtain ⟨W2, hW2, cb2, zb2, yb2, B2, hs2⟩ : ∃ W2, W2 = W1.alloc (.cells (cCells C.p C.n a C.es.length c C.wh) 25) ∧ cBlock W2 w.heap.size C.p C.n a C.es.length c C.wh ∧ cBlock W2 (w.heap.size + 1) 0 0 none 0 0 (fun _ => 0) ∧ cBlock W2 W1.heap.size C.p C.n a C.es.length c C.wh ∧ Below w.heap.size w W2 ∧ w.heap.size + 2 ≤ W1.heap.size :=
    ⟨_, rfl, ((unveil HB).1.next d1).next (below1 _ _), ((unveil HB).2.1.next d1).next (below1 _ _), cBlock.new _ _ _ _ _ _ _, Below.next (Below.next (unveil HB).2.2 d1) (below1 _ _), by have := unveil HSZ; have := d1.size; omega⟩
  rw [← hW2]
  clear hW2 c0 c1 c2 c3 c4 c5 c6 d1 HB hlt1 hne1 HSZ
  generalize W1.heap.size = X at *
  obtain ⟨y0, y1, y2, y3, y4, y5, y6⟩ := yb2.cells
  have yf := yb2.free
  have H2 := veil (And.intro cb2 (And.intro zb2 (And.intro yb2 (And.intro B2 hs2))))
  clear cb2 zb2 yb2 B2
  go_upto_region 6 with fail
  obtain ⟨W3, hW3, D⟩ : ∃ W3, W3 = W2.setCell ⟨X, 2, none⟩ (.slice none 0 0) ∧ D3 w W3 C a c X [] none 0 := by
    have T := Turned.set X 2 W2 (.slice none 0 0)
    exact ⟨_, rfl, (unveil H2).1.turned T (by omega), (unveil H2).2.1.turned T (by omega), (unveil H2).2.2.1.wait _ _ _, World.ownsRow_nil _ _ _ _, T.under (unveil H2).2.2.2.1 (by omega), (unveil H2).2.2.2.2⟩
  rw [← hW3]
  have HD := veil D
  clear hW3 D H2 y0 y1 y2 y3 y4 y5 y6 yf
  go_upto_region 7 with fail
  go_loopw [8] (fun i wr => ∃ (k : Nat) (E : List Ev) (a' : Option Addr) (c' : Nat), k ≤ C.es.length ∧ i = .int .i64 k ∧ Hid (E = keepsOf id C.es k) ∧ Hid (D3 w wr C a c X E a' c')) (fun i _ => C.es.length - (intOf i).toNat)
  case atStart => exact ⟨0, [], none, 0, Nat.zero_le _, rfl, veil rfl, HD⟩
  case round =>
    obtain ⟨k, E, a', c', hk, rfl, HE, HD1⟩ := hrel
    clear HD
    have hEl : E.length ≤ 8 := by have := keeps_len id C.es k; rw [unveil HE]; omega
    obtain ⟨c0, c1, c2, c3, c4, c5, c6⟩ := (unveil HD1).cb.cells
    obtain ⟨y0, y1, y2, y3, y4, y5, y6⟩ := (unveil HD1).yb.cells
    have yf := (unveil HD1).yb.free
    by_cases hlt : k < C.es.length
    case pos =>
      have hr := (unveil HC wr (unveil HD1).bel).row
      obtain ⟨bb, off, rfl⟩ := hr.form (by omega)
      obtain ⟨x0, x1, x2, x3, x4, x5⟩ := row_event hr k hlt
      have hbl : bb < wr.heap.size := hr.lt (by omega)
      have hbn : bb ≠ wr.heap.size := by omega
      obtain ⟨v, hv⟩ : ∃ v, v = C.es[k] := ⟨_, rfl⟩
      rw [← hv] at x0 x1 x2 x3 x4 x5
      have HV := veil hv
      clear hr hv
      by_cases hi : v.i = id
      · have HE2 : Hid (E = keepsOf id C.es (k + 1)) := veil (by rw [keeps_no hlt (by rw [← unveil HV]; exact hi)]; exact unveil HE)
        have hi' : (v.i != id) = false := by simpa using hi
        clear hi
        go_wp2
        go_roundw
        case rel => exact ⟨k + 1, E, a', c', by omega, by go_num, HE2, HD1⟩
        case measure => simp [intOf]; omega
      · have HE2 : Hid (E ++ [v] = keepsOf id C.es (k + 1)) := veil (by rw [keeps_yes hlt (by rw [← unveil HV]; exact hi), ← unveil HV, ← unveil HE])
        have hi' : (v.i != id) = true := by simpa using hi
        clear hi
        have hXl := (unveil HD1).lt
        have hup := (unveil HD1).up
        have hXn : X ≠ wr.heap.size := by omega
        have hcn : w.heap.size ≠ wr.heap.size := by omega
        have b5 : Below wr.heap.size wr (wr.alloc (.cells #[.int .i64 v.k, .int .i64 v.p, .int .i64 v.i, .int .i64 v.b, .int .i64 v.he, .int .i64 v.hn] 37)).drew := Below.next (below1 _ _) ⟨rfl, rfl, rfl, Nat.le_refl _, fun _ _ => rfl⟩
        have HO5 : Hid ((wr.alloc (.cells #[.int .i64 v.k, .int .i64 v.p, .int .i64 v.i, .int .i64 v.b, .int .i64 v.he, .int .i64 v.hn] 37)).drew.ownsRow (X + 1) 37 6 (.slice a' E.length c') E.length ((evFlat E).map (Value.int .i64))) := veil (own_still (unveil HD1).own (fun g _ hg => b5.block g hg))
        have HNx : Hid (∀ w4 a8 c8, (wr.alloc (.cells #[.int .i64 v.k, .int .i64 v.p, .int .i64 v.i, .int .i64 v.b, .int .i64 v.he, .int .i64 v.hn] 37)).drew.grownBy w4 (Value.slice a' E.length c').ownBlock → w4.ownsRow (X + 1) 37 6 (.slice a8 (E.length + 1) c8) (E.length + 1) ((evFlat E ++ evCells v).map (Value.int .i64)) → (w4.cell? ⟨X, 2, none⟩ = some (.slice a' E.length c') ∧ w4.frozen? ⟨X, 2, none⟩ = false) ∧ D3 w (w4.setCell ⟨X, 2, none⟩ (.slice a8 (E.length + 1) c8)) C (some ⟨bb, off, none⟩) c X (E ++ [v]) a8 c8) := veil (fun w4 a8 c8 gr own => by
          have d4 : Below (X + 1) wr w4 := (b5.mono (show X + 1 ≤ wr.heap.size from hXl)).grown gr (by have := b5.size; omega) (fun q hq => ((unveil HD1).own.lt q hq).1)
          have yb4 := (unveil HD1).yb.below d4 (by omega)
          have T := Turned.set X 2 w4 (.slice a8 (E.length + 1) c8)
          have hlen : (E ++ [v]).length = E.length + 1 := by simp
          refine ⟨⟨yb4.cells.2.2.1, yb4.free _⟩, ((unveil HD1).cb.below d4 (by omega)).turned T (by omega), ((unveil HD1).zb.below d4 (by omega)).turned T (by omega), ?_, ?_, T.under ((unveil HD1).bel.trans (d4.mono (by omega))) (by omega), (unveil HD1).up⟩
          · rw [hlen]; exact yb4.wait _ _ _
          · rw [hlen, evFlat_snoc]; exact T.own own (by omega))
        clear b5
        go_upto_region 10 with fail
        go_wp2_with fail
        go_region_law (refine step_append_many rfl (.tmp 33) (.tmp 39) 22 rfl (X + 1) 37 i6 _ 6 48 Try.underlying22 hi6 hz60 hz61 hz62 rfl (by decide) (.slice a' E.length c') E.length (evFlat E) rfl (unveil HO5) ⟨wr.heap.size, 0, none⟩ 1 1 (evCells v) rfl rfl (news6 _ _ _ _ _ _ _ _) (by unfold maxLen; omega) (by omega) (by simp; omega) ?_; intro v' w4 own4 grow4; obtain ⟨a8, c8, rfl⟩ := own_form own4; obtain ⟨⟨k4, f4⟩, D5⟩ := unveil HNx w4 _ _ grow4 own4; have HD5 := veil D5; clear D5 own4 grow4)
        all_goals go_wp2
        all_goals (go_roundw <;> first | exact ⟨k + 1, E ++ [v], _, _, by omega, by go_num, HE2, HD5⟩ | (simp [intOf]; omega))
    case neg =>
      obtain rfl : k = C.es.length := by omega
      have HA : Hid ((E.length = C.es.length ∧ ∀ v ∈ C.es, ¬ v.i = id) ∨ (¬ E.length = C.es.length ∧ ∃ k, ∃ hk : k < C.es.length, C.es[k].i = id ∧ E = C.es.eraseIdx k)) := veil (by rw [unveil HE]; exact unveil HK)
      clear HK HE
      obtain ⟨z0, z1, z2, z3, z4, z5, z6⟩ := (unveil HD1).zb.cells
      have zf := (unveil HD1).zb.free
      have hup := (unveil HD1).up
      by_cases he : E.length = C.es.length
      · have hn : ∀ v ∈ C.es, ¬ v.i = id := by
          rcases unveil HA with h | h
          · exact h.2
          · exact absurd he h.1
        have HR := veil (DoneR.none (unveil HOK) hn)
        have he' : ((E.length : Int) == (C.es.length : Int)) = true := by simp [he]
        clear hn he HA
        go_wp2
        obtain ⟨W4, hW4, cb4, B4, tn4⟩ := c_stored (unveil HD1).zb (unveil HD1).bel (by omega) 0 0 none 0 0 (fun _ => 0)
        rw [← hW4]
        exact bodyPost_ret (ret_refDone cb4 rfl rfl) rfl ⟨_, rfl, ⟨Cl.zero, _, 7, rfl, unveil HR, COut.zero _ _⟩, B4⟩
      · obtain ⟨q, hq, hiq, heq⟩ : ∃ k, ∃ hk : k < C.es.length, C.es[k].i = id ∧ E = C.es.eraseIdx k := by
          rcases unveil HA with h | h
          · exact absurd h.1 he
          · exact h.2
        have HR := veil (DoneR.done (unveil HOK) q hq hiq)
        have HEQ := veil heq
        have HHE := veil he
        have he' : ((E.length : Int) == (C.es.length : Int)) = false := by simp; omega
        clear he HA heq hiq hq
        go_wp2
        obtain ⟨W4, hW4, cb4, B4, tn4⟩ := c_stored (unveil HD1).zb (unveil HD1).bel (by omega) C.p C.n a' E.length c' C.wh
        rw [← hW4]
        have O4 := tn4.own (unveil HD1).own (by omega)
        obtain ⟨a3, k3, e3, r3, l3, _, n3, u3⟩ := RowK.ofMany O4 (fun u hu => unveil HWF u (by
          rw [unveil HEQ, ← evFlat_erase] at hu
          rcases List.mem_append.1 hu with h | h
          · exact List.mem_of_mem_take h
          · exact List.mem_of_mem_drop h))
        cases e3
        have hR := unveil HR
        rw [← unveil HEQ] at hR
        exact bodyPost_ret (ret_refDone cb4 rfl rfl) rfl ⟨_, rfl, ⟨⟨C.p, C.n, E, C.wh⟩, _, 0, rfl, hR, ⟨a', c', rfl, ⟨r3, l3, n3, by show E.length * 48 ≤ _; omega⟩, fun x hx => by have := u3 x hx; omega⟩⟩, B4⟩
end Go.Proofs.Ytjolamdlclcpcaa
