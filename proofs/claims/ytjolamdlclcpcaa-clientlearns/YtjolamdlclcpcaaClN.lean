/- Walks of berthshiftlaw's clients, sameEvents and sameClient, and of what it asks of a client: Checks, News, Asks, Learns. -/
import Derived.Test.YtjolamdlclcpcaaClL
import Derived.BigQuiet
namespace Go.Proofs.Ytjolamdlclcpcaa
open Go.RowKit

set_option maxHeartbeats 1000000 in
theorem csameEvents_yes (a a' : Option Addr) (n cap cap' : Nat) (A : List Int) (w : World) (h : RowK .i64 w a (6 * n) A) (h' : RowK .i64 w a' (6 * n) A) (hm : n ≤ 3000000000000) :
    Calls Try.prog 38 #[.slice a n cap, .slice a' n cap'] w fun e w' => e = .returned (.bool true) ∧ Below w.heap.size w w' := by
  go_enter Try.func38, Try.ntmps38
  have ee : ((n : Int) == (n : Int)) = true := by simp
  go_wp2
  go_loopw [5] (fun t wr => ∃ k m : Nat, k ≤ n ∧ t = .int .i64 k ∧ wr = w.drewN m) (fun t _ => n - (intOf t).toNat)
  case atStart => exact ⟨0, 0, Nat.zero_le _, rfl, rfl⟩
  case round =>
    obtain ⟨k, m, hk, rfl, rfl⟩ := hrel
    by_cases hlt : k < n
    · obtain ⟨b, off, rfl⟩ := h.form (by omega)
      obtain ⟨b', off', rfl⟩ := h'.form (by omega)
      obtain ⟨m0, m1, m2, m3, m4, m5⟩ := h.six k hlt
      obtain ⟨n0, n1, n2, n3, n4, n5⟩ := h'.six k hlt
      generalize A.getD (6 * k) 0 = x0 at m0 n0
      generalize A.getD (6 * k + 1) 0 = x1 at m1 n1
      generalize A.getD (6 * k + 2) 0 = x2 at m2 n2
      generalize A.getD (6 * k + 3) 0 = x3 at m3 n3
      generalize A.getD (6 * k + 4) 0 = x4 at m4 n4
      generalize A.getD (6 * k + 5) 0 = x5 at m5 n5
      clear h h'
      have hki : (k : Int) < (n : Int) := by omega
      go_wp2_with fail
      go_quiet (fail)
      clear m0 m1 m2 m3 m4 m5 n0 n1 n2 n3 n4 n5
      go_wp2
      go_roundw
      case rel => exact ⟨k + 1, m + nq, by omega, by go_num, by first | exact (World.drewN_add _ _ _).symm | exact World.drewN_add _ _ _ | exact World.drewN_drewN _ _ _ | rfl | simp⟩
      case measure => simp [intOf]; omega
    · have hk' : k = n := by omega
      subst hk'
      go_wp2
      go_ret
      exact ⟨rfl, belowN _ _⟩
set_option maxRecDepth 20000 in
theorem run_equal_where_at (d : Nat) (f : Nat → Int) (w : World) : (Op.equalIn (d + 1 + 1) 23 (.agg #[.int .i64 (f 0), .int .i64 (f 1), .int .i64 (f 2), .int .i64 (f 3)]) (.agg #[.int .i64 (f 0), .int .i64 (f 1), .int .i64 (f 2), .int .i64 (f 3)])).run Try.prog w = .ok true w := by
  rw [Op.equalIn]
  simp only [Sem.run_bind, run_underlying Try.underlying23, Result.andThen_ok]
  simp [go_sem, List.range', Op.equalIn, run_underlying Try.underlying3]
theorem run_equal_where (f : Nat → Int) (w : World) : (Op.equalIn 10000 23 (.agg #[.int .i64 (f 0), .int .i64 (f 1), .int .i64 (f 2), .int .i64 (f 3)]) (.agg #[.int .i64 (f 0), .int .i64 (f 1), .int .i64 (f 2), .int .i64 (f 3)])).run Try.prog w = .ok true w := run_equal_where_at 9998 f w
theorem two_cls (w : World) (p n : Int) (a : Option Addr) (m c : Nat) (wh : Nat → Int) (a' : Option Addr) (c' : Nat) : ∃ W, W = (w.alloc (.cells (cCells p n a m c wh) 25)).alloc (.cells (cCells p n a' m c' wh) 25) ∧ cBlock W w.heap.size p n a m c wh ∧ cBlock W (w.heap.size + 1) p n a' m c' wh ∧ Below w.heap.size w W := by
  refine ⟨_, rfl, (cBlock.new _ _ _ _ _ _ _).next (below1 _ _), ?_, below2 _ _ _⟩
  have h0 := cBlock.new (w.alloc (.cells (cCells p n a m c wh) 25)) p n a' m c' wh
  rw [show (w.alloc (.cells (cCells p n a m c wh) 25)).heap.size = w.heap.size + 1 by simp] at h0
  exact h0
set_option maxRecDepth 20000 in
set_option maxHeartbeats 2000000 in
theorem sameClient_one (C : Cl) (a : Option Addr) (c : Nat) (a' : Option Addr) (c' : Nat) (w : World) (h : CIn w C a c) (h' : CIn w C a' c') :
    Calls Try.prog 18 #[cVal C.p C.n a C.es.length c C.wh, cVal C.p C.n a' C.es.length c' C.wh] w fun e w' => e = .returned (.bool true) ∧ Below w.heap.size w w' := by
  have HS : Hid (∀ W, Below w.heap.size w W → Calls Try.prog 38 #[.slice a C.es.length c, .slice a' C.es.length c'] W fun e w' => e = .returned (.bool true) ∧ Below W.heap.size W w') := veil fun W b => csameEvents_yes a a' C.es.length c c' (evFlat C.es) W (h.row.below b) (h'.row.below b) (by have := h.big; omega)
  clear h h'
  obtain ⟨p, n, es, wh⟩ := C
  simp only at *
  have hq := run_equal_where wh
  go_enter Try.func18, Try.ntmps18
  go_upto_region 1 with fail
  obtain ⟨W1, hW1, k1, k2, b1⟩ := two_cls w p n a es.length c wh a' c'
  rw [← hW1]
  have hC := unveil HS W1 b1
  obtain ⟨x0, x1, x2, x3, x4, x5, x6⟩ := k1.cells
  obtain ⟨y0, y1, y2, y3, y4, y5, y6⟩ := k2.cells
  have HB1 := veil b1
  clear hW1 k1 k2 b1 HS
  go_wp2_with (go_at_call 38; refine hC.mono ?_; rintro x W2 ⟨rfl, b2⟩; clear hC)
  go_ret
  exact ⟨by simp, Below.next (unveil HB1) b2⟩
theorem sameClient_yes (C D : Cl) (a : Option Addr) (c : Nat) (a' : Option Addr) (c' : Nat) (w : World) (h : CIn w C a c) (h' : CIn w D a' c') (hs : C.Same D) :
    Calls Try.prog 18 #[cVal C.p C.n a C.es.length c C.wh, cVal D.p D.n a' D.es.length c' D.wh] w fun e w' => e = .returned (.bool true) ∧ Below w.heap.size w w' := by
  obtain ⟨p, n, es, wh⟩ := C
  obtain ⟨p', n', es', wh'⟩ := D
  obtain ⟨h1, h2, h3, h4⟩ := hs
  simp only at h1 h2 h3 h4
  subst h1 h2 h3
  have e : cVal p n a' es.length c' wh' = cVal p n a' es.length c' wh := by
    simp only [cVal, cCells, h4 0 (by omega), h4 1 (by omega), h4 2 (by omega), h4 3 (by omega)]
  rw [e]
  exact sameClient_one ⟨p, n, es, wh⟩ a c a' c' w h ⟨h'.row, h'.cap, h'.nil, h'.big⟩
theorem ret_clients {W : World} {R : Nat} {p n : Int} {a : Option Addr} {m c : Nat} {wh : Nat → Int} {tmps : Array Value} (d : cBlock W R p n a m c wh) (t2 : tmps[2]? = some (.pointer (some ⟨R, 0, none⟩))) :
    (results Try.f14 tmps).run Try.prog W = .ok (cVal p n a m c wh) W := by
  simp [results, Try.results14, t2, asAddr, load_client d]
set_option maxRecDepth 20000 in
set_option maxHeartbeats 2000000 in
theorem clients_any (C : Cl) (a : Option Addr) (c : Nat) (w : World) (h : CIn w C a c) :
    Calls Try.prog 14 #[cVal C.p C.n a C.es.length c C.wh] w fun e w' => ∃ a' c', e = .returned (cVal C.p C.n a' C.es.length c' C.wh) ∧ CIn w' C a' c' ∧ Below w.heap.size w w' := by
  have hwf := h.row.wf
  have hbig := h.big
  obtain ⟨W, hW, cb, zb, B0⟩ := two_cl w C.p C.n a C.es.length c C.wh
  have HO := ccopy_any C a c W (h.next B0)
  have hsz : W.heap.size = w.heap.size + 2 := by rw [hW]; simp
  have HB := veil (And.intro zb (And.intro B0 hsz))
  have HWF := veil (And.intro hwf hbig)
  clear hwf hbig h hsz
  go_enter Try.func14, Try.ntmps14
  go_upto_region 1 with fail
  rw [← hW]
  clear hW
  obtain ⟨c0, c1, c2, c3, c4, c5, c6⟩ := cb.cells
  clear cb zb B0
  go_wp2_with (go_at_call 34; refine HO.mono ?_; rintro e W3 ⟨a3, k3, rfl, o3, d3⟩; clear HO c0 c1 c2 c3 c4 c5 c6; obtain ⟨z0, z1, z2, z3, z4, z5, z6⟩ := ((unveil HB).1.next d3).cells; have zf := ((unveil HB).1.next d3).free; have HO3 := veil o3; have HD3 := veil d3; clear o3 d3)
  obtain ⟨W4, hW4, cb4, B4, tn4⟩ := c_stored ((unveil HB).1.next (unveil HD3)) (Below.next (unveil HB).2.1 (unveil HD3)) (by omega) C.p C.n a3 C.es.length k3 C.wh
  rw [← hW4]
  have O4 := tn4.own (unveil HO3) (by have := (unveil HB).2.2; omega)
  obtain ⟨a5, k5, e5, r5, l5, _, n5, u5⟩ := RowK.ofMany O4 (unveil HWF).1
  cases e5
  exact bodyPost_ret (ret_clients cb4 rfl) rfl ⟨a3, k3, rfl, ⟨r5, l5, n5, (unveil HWF).2⟩, B4⟩
/-- a client's box. -/
theorem one_cl (w : World) (p n : Int) (a : Option Addr) (m c : Nat) (wh : Nat → Int) : ∃ W, W = w.alloc (.cells (cCells p n a m c wh) 25) ∧ cBlock W w.heap.size p n a m c wh ∧ Below w.heap.size w W := ⟨_, rfl, cBlock.new _ _ _ _ _ _ _, below1 _ _⟩
end Go.Proofs.Ytjolamdlclcpcaa
