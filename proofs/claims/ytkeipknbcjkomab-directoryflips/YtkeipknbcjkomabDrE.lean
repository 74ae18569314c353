/- Walks of the document's directory: berthshiftref.DirectoryFault, WhereIs, MadeAt, FlippedTo. -/
import Derived.Test.YtkeipknbcjkomabDrD
namespace Go.Proofs.Ytkeipknbcjkomab
open Go.RowKit

set_option maxRecDepth 20000 in
set_option maxHeartbeats 2000000 in
theorem fault_any (n e : Nat → Int) (w : World) : Calls Try.prog 16 #[dirVal n e] w fun r w' => ((DirOk n e ∧ r = .returned (.int .i64 0)) ∨ (¬ DirOk n e ∧ r = .returned (.int .i64 6))) ∧ Below w.heap.size w w' := by
  go_enter Try.func16, Try.ntmps16
  go_wp2_with fail
  obtain ⟨W, hW, D0, B0⟩ : ∃ W, W = w.alloc (.cells (dirCells n e) 26) ∧ dirBlock W w.heap.size n e ∧ Below w.heap.size w W := ⟨_, rfl, dirBlock.new w n e, below1 _ _⟩
  rw [← hW]
  clear hW
  go_loopw [3] (fun i wr => ∃ k : Nat, k ≤ 4 ∧ i = .int .i64 k ∧ (∀ p, p < k → PlOk (n p) (e p)) ∧ dirBlock wr w.heap.size n e ∧ Below w.heap.size w wr) (fun i _ => 4 - (intOf i).toNat)
  case atStart => exact ⟨0, by omega, rfl, fun p hp => by omega, D0, B0⟩
  case round =>
    obtain ⟨k, hk, rfl, hi, D, B⟩ := hrel
    clear B0 D0
    have HB := veil B
    have HI := veil hi
    have HD := veil D
    clear B hi
    by_cases hlt : k < 4
    · have HE : Hid (DirOk n e → PlOk (n k) (e k)) := veil (fun h => h k hlt)
      have HP : Hid (∀ x y, x = n k → y = e k → PlOk x y → ∀ p, p < k + 1 → PlOk (n p) (e p)) := veil (fun x y hx hy h p hp => by
        rcases Nat.lt_or_ge p k with h1 | h1
        · exact unveil HI p h1
        · obtain rfl : p = k := by omega
          rw [← hx, ← hy]; exact h)
      obtain ⟨d0, d1⟩ := D.at k hlt
      have hDl := D.lt
      have hDn : w.heap.size ≠ wr.heap.size := by omega
      obtain ⟨x, hx⟩ : ∃ x, n k = x := ⟨_, rfl⟩
      obtain ⟨y, hy⟩ : ∃ y, e k = y := ⟨_, rfl⟩
      rw [hx] at d0 HE
      rw [hy] at d1 HE
      have HX := veil (And.intro hx hy)
      clear hx hy D
      have HIn0 := fun w => In_any x 0 4 w
      have HIn1 := fun w => In_any y 1 1048576 w
      have hst : Below w.heap.size w (wr.alloc (.cells #[.int .i64 x, .int .i64 y] 23)) ∧ dirBlock (wr.alloc (.cells #[.int .i64 x, .int .i64 y] 23)) w.heap.size n e := ⟨Below.next (unveil HB) (below1 _ _), (unveil HD).next (below1 _ _)⟩
      have HST := veil hst
      clear hst
      by_cases h1 : x = -1
      · subst h1
        by_cases h2 : y = 0
        · subst h2
          go_wp2
          go_roundw
          case rel => exact ⟨k + 1, by omega, by go_num, unveil HP _ _ (unveil HX).1.symm (unveil HX).2.symm (.inl ⟨rfl, rfl⟩), (unveil HST).2, (unveil HST).1⟩
          case measure => simp [intOf]; omega
        · rw [decide_eq_false (show ¬ (0 ≤ (-1 : Int) ∧ (-1 : Int) ≤ 4) by omega)] at HIn0
          go_wp2_with (go_at_call 47; refine (HIn0 _).mono ?_; rintro r w2 ⟨rfl, hw2⟩; subst w2)
          go_ret
          refine ⟨.inr ⟨fun h => ?_, rfl⟩, (unveil HST).1⟩
          have := unveil HE h
          unfold PlOk at this
          omega
      · by_cases h3 : 0 ≤ x ∧ x ≤ 4
        · have hb0 := veil (decide_eq_true h3)
          clear HIn0
          have H3 := veil h3
          clear h3
          by_cases h4 : 1 ≤ y ∧ y ≤ 1048576
          · have hb1 := veil (decide_eq_true h4)
            clear HIn1
            have H4 := veil h4
            clear h4
            go_wp2_with (go_at_call 47; refine (In_any _ _ _ _).mono ?_; rintro r w2 ⟨rfl, hw2⟩; subst w2; first | rw [unveil hb0] | rw [unveil hb1])
            go_roundw
            case rel => exact ⟨k + 1, by omega, by go_num, unveil HP _ _ (unveil HX).1.symm (unveil HX).2.symm (.inr ⟨(unveil H3).1, (unveil H3).2, (unveil H4).1, (unveil H4).2⟩), (unveil HST).2, (unveil HST).1⟩
            case measure => simp [intOf]; omega
          · have hb1 := veil (decide_eq_false h4)
            clear HIn1
            have H4 := veil h4
            clear h4
            go_wp2_with (go_at_call 47; refine (In_any _ _ _ _).mono ?_; rintro r w2 ⟨rfl, hw2⟩; subst w2; first | rw [unveil hb0] | rw [unveil hb1])
            go_ret
            refine ⟨.inr ⟨fun h => ?_, rfl⟩, (unveil HST).1⟩
            have := unveil HE h
            have := unveil H4
            unfold PlOk at *
            omega
        · rw [decide_eq_false h3] at HIn0
          have H3 := veil h3
          clear h3
          go_wp2_with (go_at_call 47; refine (HIn0 _).mono ?_; rintro r w2 ⟨rfl, hw2⟩; subst w2)
          go_ret
          refine ⟨.inr ⟨fun h => ?_, rfl⟩, (unveil HST).1⟩
          have := unveil HE h
          have := unveil H3
          unfold PlOk at *
          omega
    · obtain rfl : k = 4 := by omega
      go_wp2
      go_ret
      exact ⟨.inl ⟨unveil HI, rfl⟩, unveil HB⟩
theorem fault_yes (n e : Nat → Int) (w : World) (h : DirOk n e) : Calls Try.prog 16 #[dirVal n e] w fun r w' => r = .returned (.int .i64 0) ∧ Below w.heap.size w w' := by
  refine (fault_any n e w).mono ?_
  rintro r w' ⟨⟨_, hr⟩ | ⟨h', _⟩, b⟩
  · exact ⟨hr, b⟩
  · exact absurd h h'
theorem fault_no (n e : Nat → Int) (w : World) (h : ¬ DirOk n e) : Calls Try.prog 16 #[dirVal n e] w fun r w' => r = .returned (.int .i64 6) ∧ Below w.heap.size w w' := by
  refine (fault_any n e w).mono ?_
  rintro r w' ⟨⟨h', _⟩ | ⟨_, hr⟩, b⟩
  · exact absurd h' h
  · exact ⟨hr, b⟩
theorem ret_WhereIs {W : World} {R : Nat} {a b c : Int} {tmps : Array Value} (p : plBlock W R a b) (t4 : tmps[4]? = some (.pointer (some ⟨R, 0, none⟩))) (t5 : tmps[5]? = some (.int .i64 c)) :
    (results Try.f20 tmps).run Try.prog W = .ok (.tuple #[plVal a b, .int .i64 c]) W := by
  have h1 := run_loadVar_row (P := Try.prog) W R 23 23 _ (0, 0) _ p Try.underlying23 rfl (by kernel_rfl)
  simp [results, Try.results20, t4, t5, asAddr, h1]
set_option maxRecDepth 20000 in
set_option maxHeartbeats 2000000 in
theorem whereIs_any (n e : Nat → Int) (q : Int) (w : World) : Calls Try.prog 20 #[dirVal n e, .int .i64 q] w fun r w' => ∃ a b c, r = .returned (.tuple #[plVal a b, .int .i64 c]) ∧ WhereR n e q a b c ∧ Below w.heap.size w w' := by
  by_cases ok : DirOk n e
  case neg =>
    go_enter Try.func20, Try.ntmps20
    go_wp2_with fail
    obtain ⟨W, hW, H⟩ := Wh.made w n e
    rw [← hW]
    clear hW
    refine (fault_no n e _ ok).mono ?_
    rintro r w1 ⟨rfl, b1⟩
    have H1 := H.next b1
    clear H b1
    obtain ⟨p0, p1⟩ := H1.p.cells
    have pf := H1.p.free
    go_wp2
    obtain ⟨o, b⟩ := H1.out 0 0
    exact bodyPost_ret (ret_WhereIs o rfl rfl) rfl ⟨0, 0, 6, rfl, .state ok, b⟩
  case pos =>
  have HQ := fun w => In_any q 0 3 w
  by_cases hq : 0 ≤ q ∧ q ≤ 3
  case neg =>
    rw [decide_eq_false hq] at HQ
    go_enter Try.func20, Try.ntmps20
    go_wp2_with fail
    obtain ⟨W, hW, H⟩ := Wh.made w n e
    rw [← hW]
    clear hW
    refine (fault_yes n e _ ok).mono ?_
    rintro r w1 ⟨rfl, b1⟩
    have H1 := H.next b1
    clear H b1
    obtain ⟨p0, p1⟩ := H1.p.cells
    have pf := H1.p.free
    go_wp2_with (go_at_call 47; refine (HQ _).mono ?_; rintro r w2 ⟨rfl, hw2⟩; subst w2)
    obtain ⟨o, b⟩ := H1.out 0 0
    exact bodyPost_ret (ret_WhereIs o rfl rfl) rfl ⟨0, 0, 2, rfl, .range ok hq, b⟩
  case pos =>
  rw [decide_eq_true hq] at HQ
  obtain ⟨k, rfl⟩ : ∃ k : Nat, q = k := ⟨q.toNat, by omega⟩
  have hk : k < 4 := by omega
  clear hq
  obtain ⟨x, hx⟩ : ∃ x, n k = x := ⟨_, rfl⟩
  obtain ⟨y, hy⟩ : ∃ y, e k = y := ⟨_, rfl⟩
  have hpl : x = -1 ∨ (¬ x = -1 ∧ 0 ≤ x) := by
    have := ok k hk
    rw [hx, hy] at this
    unfold PlOk at this
    omega
  have HX := veil (And.intro hx hy)
  rcases hpl with hn | ⟨hn, hx0⟩
  · go_enter Try.func20, Try.ntmps20
    go_wp2_with fail
    obtain ⟨W, hW, H⟩ := Wh.made w n e
    rw [← hW]
    clear hW
    refine (fault_yes n e _ ok).mono ?_
    rintro r w1 ⟨rfl, b1⟩
    have H1 := H.next b1
    clear H b1
    obtain ⟨p0, p1⟩ := H1.p.cells
    have pf := H1.p.free
    obtain ⟨d0, d1⟩ := H1.d.at k hk
    rw [hx] at d0
    rw [hy] at d1
    have hx1 : x < 0 := by omega
    clear hx hy
    go_wp2_with (go_at_call 47; refine (HQ _).mono ?_; rintro r w2 ⟨rfl, hw2⟩; subst w2)
    obtain ⟨o, b⟩ := H1.out 0 0
    exact bodyPost_ret (ret_WhereIs o rfl rfl) rfl ⟨0, 0, 7, rfl, .none ok k hk rfl ((unveil HX).1.trans hn), b⟩
  · go_enter Try.func20, Try.ntmps20
    go_wp2_with fail
    obtain ⟨W, hW, H⟩ := Wh.made w n e
    rw [← hW]
    clear hW
    refine (fault_yes n e _ ok).mono ?_
    rintro r w1 ⟨rfl, b1⟩
    have H1 := H.next b1
    clear H b1
    obtain ⟨p0, p1⟩ := H1.p.cells
    have pf := H1.p.free
    obtain ⟨d0, d1⟩ := H1.d.at k hk
    rw [hx] at d0
    rw [hy] at d1
    have hx1 : ¬ x < 0 := by omega
    clear hx hy
    go_wp2_with (go_at_call 47; refine (HQ _).mono ?_; rintro r w2 ⟨rfl, hw2⟩; subst w2)
    obtain ⟨o, b⟩ := H1.out x y
    refine bodyPost_ret (ret_WhereIs o rfl rfl) rfl ⟨x, y, 0, rfl, ?_, b⟩
    have := WhereR.here ok k hk rfl (fun h => hn ((unveil HX).1.symm.trans h))
    rw [(unveil HX).1, (unveil HX).2] at this
    exact this
end Go.Proofs.Ytkeipknbcjkomab
