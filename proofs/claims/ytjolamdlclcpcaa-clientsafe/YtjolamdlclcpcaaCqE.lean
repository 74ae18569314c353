/- Walks of client.New, Ask, Learn. -/
import Derived.Test.YtjolamdlclcpcaaCqC
namespace Go.Proofs.Ytjolamdlclcpcaa
open Go.RowKit

/-- what Ask answers, two numbers. -/
def AskOut (C : Cl) (q : Int) (x : Value) : Prop := ∃ n e, x = .tuple #[.int .i64 n, .int .i64 e] ∧ AskR C q n e
set_option maxRecDepth 20000 in
set_option maxHeartbeats 2000000 in
theorem ask_any (C : Cl) (a : Option Addr) (c : Nat) (q : Int) (w : World) (h : CIn w C a c) :
    Calls Try.prog 25 #[cVal C.p C.n a C.es.length c C.wh, .int .i64 q] w fun e w' => ∃ x, e = .returned x ∧ AskOut C q x ∧ Below w.heap.size w w' := by
  have HC : Hid (∀ W, Below w.heap.size w W → Calls Try.prog 13 #[cVal C.p C.n a C.es.length c C.wh] W fun e w' => e = .returned (.int .i64 (clFault C)) ∧ Below W.heap.size W w') := veil fun W b => ccheck_any C a c W (h.next b)
  clear h
  obtain ⟨W, hW, cb, B0⟩ : ∃ W, W = w.alloc (.cells (cCells C.p C.n a C.es.length c C.wh) 25) ∧ cBlock W w.heap.size C.p C.n a C.es.length c C.wh ∧ Below w.heap.size w W := ⟨_, rfl, cBlock.new _ _ _ _ _ _ _, below1 _ _⟩
  have HC1 := unveil HC W B0
  clear HC
  by_cases ok : C.Ok
  case neg =>
    rw [show clFault C = 6 from if_neg ok] at HC1
    go_enter Try.func25, Try.ntmps25
    go_upto_region 1 with fail
    rw [← hW]
    clear hW
    obtain ⟨c0, c1, c2, c3, c4, c5, c6⟩ := cb.cells
    have HB := veil (And.intro cb B0)
    clear cb B0
    go_wp2_with (go_at_call 13; refine HC1.mono ?_; rintro e W1 ⟨rfl, d1⟩; clear HC1)
    go_ret2
    exact ⟨_, rfl, ⟨0, 6, rfl, .state ok⟩, Below.next (unveil HB).2 d1⟩
  case pos =>
  rw [show clFault C = 0 from if_pos ok] at HC1
  have HQ := fun w => cisQueue_any q w
  by_cases hq : 0 ≤ q ∧ q ≤ 3
  case neg =>
    rw [decide_eq_false hq] at HQ
    go_enter Try.func25, Try.ntmps25
    go_upto_region 1 with fail
    rw [← hW]
    clear hW
    obtain ⟨c0, c1, c2, c3, c4, c5, c6⟩ := cb.cells
    have HB := veil (And.intro cb B0)
    clear cb B0
    go_wp2_with (first
      | (go_at_call 13; refine HC1.mono ?_; rintro e W1 ⟨rfl, d1⟩; clear HC1)
      | (go_at_call 43; refine (HQ _).mono ?_; rintro e w2 ⟨rfl, hw2⟩; subst w2; clear HQ))
    go_ret2
    exact ⟨_, rfl, ⟨0, 2, rfl, .range ok hq⟩, Below.next (unveil HB).2 d1⟩
  case pos =>
  rw [decide_eq_true hq] at HQ
  obtain ⟨k, rfl⟩ : ∃ k : Nat, q = k := ⟨q.toNat, by omega⟩
  have hk : k < 4 := by omega
  have HOK := veil ok
  clear hq ok
  obtain ⟨x, hx⟩ : ∃ x, C.wh k = x := ⟨_, rfl⟩
  have HX := veil hx
  go_enter Try.func25, Try.ntmps25
  go_upto_region 1 with fail
  rw [← hW]
  clear hW
  obtain ⟨c0, c1, c2, c3, c4, c5, c6⟩ := cb.cells
  have HB := veil (And.intro cb B0)
  clear cb B0 hx
  by_cases hn : x = -1
  · have HN := veil hn
    subst hn
    go_wp2_with (first
      | (go_at_call 13; refine HC1.mono ?_; rintro e W1 ⟨rfl, d1⟩; clear HC1 c0 c1 c2 c3 c4 c5 c6)
      | (go_at_call 43; refine (HQ _).mono ?_; rintro e w2 ⟨rfl, hw2⟩; subst w2; clear HQ; have ck := ((unveil HB).1.next d1).at k hk; rw [unveil HX] at ck))
    go_ret2
    exact ⟨_, rfl, ⟨0, 7, rfl, .none (unveil HOK) k hk rfl (unveil HX)⟩, Below.next (unveil HB).2 d1⟩
  · go_wp2_with (first
      | (go_at_call 13; refine HC1.mono ?_; rintro e W1 ⟨rfl, d1⟩; clear HC1 c0 c1 c2 c3 c4 c5 c6)
      | (go_at_call 43; refine (HQ _).mono ?_; rintro e w2 ⟨rfl, hw2⟩; subst w2; clear HQ; have ck := ((unveil HB).1.next d1).at k hk; rw [unveil HX] at ck))
    go_ret2
    refine ⟨_, rfl, ⟨x, 0, rfl, ?_⟩, Below.next (unveil HB).2 d1⟩
    have := AskR.here (unveil HOK) k hk rfl (fun h => hn ((unveil HX).symm.trans h))
    rwa [unveil HX] at this
theorem ret_Learn {W : World} {R : Nat} {p n : Int} {a : Option Addr} {m c : Nat} {wh : Nat → Int} {e : Int} {tmps : Array Value} (d : cBlock W R p n a m c wh) (t6 : tmps[6]? = some (.pointer (some ⟨R, 0, none⟩))) (t7 : tmps[7]? = some (.int .i64 e)) :
    (results Try.f23 tmps).run Try.prog W = .ok (.tuple #[cVal p n a m c wh, .int .i64 e]) W := by
  simp [results, Try.results23, t6, t7, asAddr, load_client d]
/-- what Learn answers. -/
def LearnOut (w w' : World) (C : Cl) (q nd : Int) (x : Value) : Prop := ∃ D y e, x = .tuple #[y, .int .i64 e] ∧ LearnR C q nd D e ∧ COut w w' D y
set_option maxRecDepth 20000 in
set_option maxHeartbeats 4000000 in
theorem learn_any (C : Cl) (a : Option Addr) (c : Nat) (q nd : Int) (w : World) (h : CIn w C a c) (hwf : ∀ u ∈ evFlat C.es, (Lit.int .i64 u).wf = true) :
    Calls Try.prog 23 #[cVal C.p C.n a C.es.length c C.wh, .int .i64 q, .int .i64 nd] w fun e w' => ∃ x, e = .returned x ∧ LearnOut w w' C q nd x ∧ Below w.heap.size w w' := by
  have HC : Hid (∀ W, Below w.heap.size w W → CIn W C a c) := veil fun W b => h.next b
  have HH := veil h
  clear h
  obtain ⟨W, hW, cb, zb, B0⟩ := two_cl w C.p C.n a C.es.length c C.wh
  have HC1 := ccheck_any C a c W (unveil HC W B0)
  have HB := veil (And.intro cb (And.intro zb B0))
  by_cases ok : C.Ok
  case neg =>
    rw [show clFault C = 6 from if_neg ok] at HC1
    clear HC
    go_enter Try.func23, Try.ntmps23
    go_upto_region 1 with fail
    rw [← hW]
    clear hW
    obtain ⟨c0, c1, c2, c3, c4, c5, c6⟩ := cb.cells
    clear cb zb B0
    go_wp2_with (go_at_call 13; refine HC1.mono ?_; rintro e W1 ⟨rfl, d1⟩; clear HC1 c0 c1 c2 c3 c4 c5 c6; obtain ⟨z0, z1, z2, z3, z4, z5, z6⟩ := ((unveil HB).2.1.next d1).cells; have zf := ((unveil HB).2.1.next d1).free)
    obtain ⟨W4, hW4, cb4, B4, tn4⟩ := c_stored ((unveil HB).2.1.next d1) (Below.next (unveil HB).2.2 d1) (by omega) 0 0 none 0 0 (fun _ => 0)
    rw [← hW4]
    exact bodyPost_ret (ret_Learn cb4 rfl rfl) rfl ⟨_, rfl, ⟨Cl.zero, _, 6, rfl, .state ok, COut.zero _ _⟩, B4⟩
  case pos =>
  rw [show clFault C = 0 from if_pos ok] at HC1
  have HQ := fun w => cisQueue_any q w
  have HM := fun w => mayBeAt_any nd w
  by_cases hq : 0 ≤ q ∧ q ≤ 3
  case neg =>
    rw [decide_eq_false hq] at HQ
    clear HC HM
    go_enter Try.func23, Try.ntmps23
    go_upto_region 1 with fail
    rw [← hW]
    clear hW
    obtain ⟨c0, c1, c2, c3, c4, c5, c6⟩ := cb.cells
    clear cb zb B0
    go_wp2_with (first
      | (go_at_call 13; refine HC1.mono ?_; rintro e W1 ⟨rfl, d1⟩; clear HC1 c0 c1 c2 c3 c4 c5 c6; obtain ⟨z0, z1, z2, z3, z4, z5, z6⟩ := ((unveil HB).2.1.next d1).cells; have zf := ((unveil HB).2.1.next d1).free)
      | (go_at_call 43; refine (HQ _).mono ?_; rintro e w2 ⟨rfl, hw2⟩; subst w2; clear HQ))
    obtain ⟨W4, hW4, cb4, B4, tn4⟩ := c_stored ((unveil HB).2.1.next d1) (Below.next (unveil HB).2.2 d1) (by omega) 0 0 none 0 0 (fun _ => 0)
    rw [← hW4]
    exact bodyPost_ret (ret_Learn cb4 rfl rfl) rfl ⟨_, rfl, ⟨Cl.zero, _, 2, rfl, .range ok (fun h => hq h.1), COut.zero _ _⟩, B4⟩
  case pos =>
  rw [decide_eq_true hq] at HQ
  by_cases hd : -1 ≤ nd ∧ nd ≤ 4
  case neg =>
    rw [decide_eq_false hd] at HM
    clear HC
    have HQQ := veil hq
    clear hq
    go_enter Try.func23, Try.ntmps23
    go_upto_region 1 with fail
    rw [← hW]
    clear hW
    obtain ⟨c0, c1, c2, c3, c4, c5, c6⟩ := cb.cells
    clear cb zb B0
    go_wp2_with (first
      | (go_at_call 13; refine HC1.mono ?_; rintro e W1 ⟨rfl, d1⟩; clear HC1 c0 c1 c2 c3 c4 c5 c6; obtain ⟨z0, z1, z2, z3, z4, z5, z6⟩ := ((unveil HB).2.1.next d1).cells; have zf := ((unveil HB).2.1.next d1).free)
      | (go_at_call 43; refine (HQ _).mono ?_; rintro e w2 ⟨rfl, hw2⟩; subst w2; clear HQ)
      | (go_at_call 44; refine (HM _).mono ?_; rintro e w2 ⟨rfl, hw2⟩; subst w2; clear HM))
    obtain ⟨W4, hW4, cb4, B4, tn4⟩ := c_stored ((unveil HB).2.1.next d1) (Below.next (unveil HB).2.2 d1) (by omega) 0 0 none 0 0 (fun _ => 0)
    rw [← hW4]
    exact bodyPost_ret (ret_Learn cb4 rfl rfl) rfl ⟨_, rfl, ⟨Cl.zero, _, 2, rfl, .range ok (fun h => hd h.2), COut.zero _ _⟩, B4⟩
  case pos =>
  rw [decide_eq_true hd] at HM
  obtain ⟨k, rfl⟩ : ∃ k : Nat, q = k := ⟨q.toNat, by omega⟩
  have hk : k < 4 := by omega
  have HOK := veil ok
  have HD := veil hd
  clear hq ok hd
  have HO : Hid (∀ W, Below w.heap.size w W → Calls Try.prog 40 #[cVal C.p C.n a C.es.length c C.wh] W fun e w' => ∃ a' c', e = .returned (cVal C.p C.n a' C.es.length c' C.wh) ∧ w'.ownsRow (W.heap.size + 2) 37 6 (.slice a' C.es.length c') C.es.length ((evFlat C.es).map (Value.int .i64)) ∧ Below W.heap.size W w') := veil fun W b => own_any C a c W (unveil HC W b)
  have HBIG := veil (unveil HH).big
  clear HC HH
  go_enter Try.func23, Try.ntmps23
  go_upto_region 1 with fail
  rw [← hW]
  have hsz : W.heap.size = w.heap.size + 2 := by rw [hW]; simp
  have HSZ := veil hsz
  clear hW hsz
  obtain ⟨c0, c1, c2, c3, c4, c5, c6⟩ := cb.cells
  clear cb zb B0
  go_upto_region 6 with (first
    | (go_at_call 13; refine HC1.mono ?_; rintro e W1 ⟨rfl, d1⟩; clear HC1 c0 c1 c2 c3 c4 c5 c6)
    | (go_at_call 43; refine (HQ _).mono ?_; rintro e w2 ⟨rfl, hw2⟩; subst w2; clear HQ)
    | (go_at_call 44; refine (HM _).mono ?_; rintro e w2 ⟨rfl, hw2⟩; subst w2; clear HM))
  have cb1 := (unveil HB).1.next d1
  have zb1 := (unveil HB).2.1.next d1
  have B1 := Below.next (unveil HB).2.2 d1
  have hs1 : w.heap.size + 2 ≤ W1.heap.size := by have := d1.size; have := unveil HSZ; omega
  have HO1 := unveil HO W1 B1
  obtain ⟨c0, c1, c2, c3, c4, c5, c6⟩ := cb1.cells
  have cf := cb1.free
  have H1 := veil (And.intro cb1 (And.intro zb1 (And.intro B1 hs1)))
  clear cb1 zb1 B1 hs1 HO HB HSZ d1
  go_upto_region 7 with (go_at_call 40; refine HO1.mono ?_; rintro e W2 ⟨a2, k2, rfl, o2, d2⟩; clear HO1 c0 c1 c2 c3 c4 c5 c6 cf; obtain ⟨c0, c1, c2, c3, c4, c5, c6⟩ := ((unveil H1).1.next d2).cells; have cf := ((unveil H1).1.next d2).free; have HO2 := veil o2; have HD2 := veil d2; clear o2 d2)
  obtain ⟨W3, hW3, cb3, B3, tn3⟩ := c_stored ((unveil H1).1.next (unveil HD2)) (Below.next (unveil H1).2.2.1 (unveil HD2)) (Nat.le_refl _) C.p C.n a2 C.es.length k2 C.wh
  rw [← hW3]
  have zb3 := ((unveil H1).2.1.next (unveil HD2)).turned tn3 (by omega)
  have O3 := tn3.own (unveil HO2) (by have := (unveil H1).2.2.2; omega)
  clear hW3 c0 c1 c2 c3 c4 c5 c6 cf
  have ck := cb3.at k hk
  have cf := cb3.free
  have H3 := veil (And.intro cb3 (And.intro zb3 (And.intro B3 O3)))
  clear cb3 zb3 B3 O3 tn3 HO2 HD2
  go_upto_region 8 with fail
  obtain ⟨W5, hW5, cb5, B5, tn5⟩ : ∃ W5, W5 = W3.setCell ⟨w.heap.size, 3 + k, none⟩ (.int .i64 nd) ∧ cBlock W5 w.heap.size C.p C.n a2 C.es.length k2 (kput C.wh k nd) ∧ Below w.heap.size w W5 ∧ Turned w.heap.size W3 W5 :=
    ⟨_, rfl, (unveil H3).1.put k hk nd, (Turned.set _ _ _ _).under (unveil H3).2.2.1 (Nat.le_refl _), Turned.set _ _ _ _⟩
  rw [← hW5]
  have zb5 := (unveil H3).2.1.turned tn5 (by omega)
  have O5 := tn5.own (unveil H3).2.2.2 (by have := (unveil H1).2.2.2; omega)
  clear hW5 ck cf
  obtain ⟨c0, c1, c2, c3, c4, c5, c6⟩ := cb5.cells
  obtain ⟨z0, z1, z2, z3, z4, z5, z6⟩ := zb5.cells
  have zf := zb5.free
  have H5 := veil (And.intro zb5 (And.intro B5 O5))
  clear cb5 zb5 B5 O5 tn5 H3
  go_wp2
  obtain ⟨W6, hW6, cb6, B6, tn6⟩ := c_stored (unveil H5).1 (unveil H5).2.1 (by omega) C.p C.n a2 C.es.length k2 (kput C.wh k nd)
  rw [← hW6]
  have O6 := tn6.own (unveil H5).2.2 (by have := (unveil H1).2.2.2; omega)
  obtain ⟨a3, k3, e3, r3, l3, _, n3, u3⟩ := RowK.ofMany O6 hwf
  cases e3
  exact bodyPost_ret (ret_Learn cb6 rfl rfl) rfl ⟨_, rfl, ⟨⟨C.p, C.n, C.es, kput C.wh k nd⟩, _, 0, rfl, .learnt (unveil HOK) k hk rfl (unveil HD), ⟨a2, k2, rfl, ⟨r3, l3, n3, unveil HBIG⟩, fun x hx => by have := u3 x hx; have := (unveil H1).2.2.1.size; omega⟩⟩, B6⟩
end Go.Proofs.Ytjolamdlclcpcaa
