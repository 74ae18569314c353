/- Walks of the document's directory: berthshiftref.MadeAt, FlippedTo, DirectoryNew; of directory.New. -/
import Derived.Test.YtkeipknbcjkomabDrE
namespace Go.Proofs.Ytkeipknbcjkomab
open Go.RowKit

theorem ret_MadeAt {W : World} {R : Nat} {n e : Nat → Int} {c : Int} {tmps : Array Value} (d : dirBlock W R n e) (t6 : tmps[6]? = some (.pointer (some ⟨R, 0, none⟩))) (t7 : tmps[7]? = some (.int .i64 c)) :
    (results Try.f22 tmps).run Try.prog W = .ok (.tuple #[dirVal n e, .int .i64 c]) W := by
  have h1 := run_loadVar_row (P := Try.prog) W R 26 26 _ (0, 0) _ d Try.underlying26 rfl (by kernel_rfl)
  simp [results, Try.results22, t6, t7, asAddr, h1]
theorem ret_FlippedTo {W : World} {R : Nat} {n e : Nat → Int} {c : Int} {tmps : Array Value} (d : dirBlock W R n e) (t6 : tmps[8]? = some (.pointer (some ⟨R, 0, none⟩))) (t7 : tmps[9]? = some (.int .i64 c)) :
    (results Try.f24 tmps).run Try.prog W = .ok (.tuple #[dirVal n e, .int .i64 c]) W := by
  have h1 := run_loadVar_row (P := Try.prog) W R 26 26 _ (0, 0) _ d Try.underlying26 rfl (by kernel_rfl)
  simp [results, Try.results24, t6, t7, asAddr, h1]
/-- a place put into the first box of Make. -/
theorem Mk.put {w wx : World} {n e : Nat → Int} (h : Mk w wx n e) (k : Nat) (hk : k < 4) (a b : Int) : Mk w ((wx.setCell ⟨w.heap.size, k * 2, none⟩ (.int .i64 a)).setCell ⟨w.heap.size, k * 2 + 1, none⟩ (.int .i64 b)) (dput n k a) (dput e k b) := by
  refine ⟨h.d.put k hk a b, ?_, (h.bel.setCell (Nat.le_refl _) _).setCell (Nat.le_refl _) _⟩
  have z := h.z
  unfold dirBlock at z ⊢
  rw [Below.heap_setCell _ _ _ _ (by simp), Below.heap_setCell _ _ _ _ (by simp)]
  exact z
theorem WhereR.madeNo {n e : Nat → Int} {q a b c node : Int} (h : WhereR n e q a b c) (h0 : ¬ c = 0) (h7 : ¬ c = 7) : MakeR n e q node zeroF zeroF c := by
  cases h with
  | state h => exact .state h
  | range h hq => exact .range h (fun h => hq h.1)
  | none h => omega
  | here h => omega
theorem WhereR.madeIn {n e : Nat → Int} {q a b c node : Int} (h : WhereR n e q a b c) (h0 : c = 0 ∨ c = 7) (hd : ¬ (0 ≤ node ∧ node ≤ 4)) : MakeR n e q node zeroF zeroF 2 := by
  cases h with
  | state h => omega
  | range h hq => omega
  | none h => exact .range h (fun h => hd h.2)
  | here h => exact .range h (fun h => hd h.2)
theorem WhereR.made0 {n e : Nat → Int} {q a b node : Int} (h : WhereR n e q a b 0) (hd : 0 ≤ node ∧ node ≤ 4) : MakeR n e q node zeroF zeroF 8 := by
  obtain ⟨ok, k, hk, hq, hn, _, _⟩ := h.at
  exact .twice ok k hk hq hd hn
theorem WhereR.made7 {n e : Nat → Int} {q a b : Int} (h : WhereR n e q a b 7) : DirOk n e ∧ ∃ k : Nat, k < 4 ∧ q = k ∧ n k = -1 := by
  obtain ⟨c, hc⟩ : ∃ c : Int, c = 7 := ⟨7, rfl⟩
  rw [← hc] at h
  cases h with
  | state h => omega
  | range h => omega
  | none h k hk hq hn => exact ⟨h, k, hk, hq, hn⟩
  | here h k hk hq hn => omega
set_option maxRecDepth 20000 in
set_option maxHeartbeats 2000000 in
theorem madeAt_any (n e : Nat → Int) (q node : Int) (w : World) : Calls Try.prog 22 #[dirVal n e, .int .i64 q, .int .i64 node] w fun r w' => ∃ a b c, r = .returned (.tuple #[dirVal a b, .int .i64 c]) ∧ MakeR n e q node a b c ∧ Below w.heap.size w w' := by
  have HN := fun w => In_any node 0 4 w
  go_enter Try.func22, Try.ntmps22
  go_wp2_with fail
  obtain ⟨W, hW, H⟩ := Mk.made w n e
  rw [← hW]
  clear hW
  refine (whereIs_any n e q _).mono ?_
  rintro r w1 ⟨a, b, c, rfl, hwr, b1⟩
  have H1 := H.next b1
  clear H b1
  have HW := veil hwr
  clear hwr
  go_upto_region 2 with fail
  have H2 := H1.next (below1 w1 (.cells #[.int .i64 a, .int .i64 b] 23))
  obtain ⟨W2, hW2⟩ : ∃ W2, W2 = w1.alloc (.cells #[.int .i64 a, .int .i64 b] 23) := ⟨_, rfl⟩
  rw [← hW2] at H2 ⊢
  clear hW2 H1
  obtain ⟨x0, x1, x2, x3, x4, x5, x6, x7⟩ := H2.z.cells
  have zf := H2.z.free
  by_cases h0 : c = 0
  · subst h0
    by_cases hd : 0 ≤ node ∧ node ≤ 4
    · rw [decide_eq_true hd] at HN
      have HD := veil hd
      have HH := veil H2
      clear hd H2
      go_wp2_with (go_at_call 47; refine (HN _).mono ?_; rintro r w2 ⟨rfl, hw2⟩; subst w2)
      obtain ⟨W2, hW2, d2, b2⟩ := (unveil HH).zero
      rw [← hW2]
      exact bodyPost_ret (ret_MadeAt d2 rfl rfl) rfl ⟨zeroF, zeroF, 8, rfl, (unveil HW).made0 (unveil HD), b2⟩
    · rw [decide_eq_false hd] at HN
      have HD := veil hd
      have HH := veil H2
      clear hd H2
      go_wp2_with (go_at_call 47; refine (HN _).mono ?_; rintro r w2 ⟨rfl, hw2⟩; subst w2)
      obtain ⟨W2, hW2, d2, b2⟩ := (unveil HH).zero
      rw [← hW2]
      exact bodyPost_ret (ret_MadeAt d2 rfl rfl) rfl ⟨zeroF, zeroF, 2, rfl, (unveil HW).madeIn (.inl rfl) (unveil HD), b2⟩
  · by_cases h7 : c = 7
    · subst h7
      by_cases hd : 0 ≤ node ∧ node ≤ 4
      · rw [decide_eq_true hd] at HN
        have HD := veil hd
        clear hd h0
        obtain ⟨ok, k, hk, rfl, hn⟩ := (unveil HW).made7
        clear HW
        obtain ⟨d0, d1⟩ := H2.d.at k hk
        have df := H2.d.free
        have hdl := H2.d.lt
        clear x0 x1 x2 x3 x4 x5 x6 x7 zf
        go_upto_region 9 with (go_at_call 47; refine (HN _).mono ?_; rintro r w2 ⟨rfl, hw2⟩; subst w2)
        have H3 := H2.put k hk node 1
        clear d0 d1 df H2 hdl
        generalize (W2.setCell ⟨w.heap.size, k * 2, none⟩ (.int .i64 node)).setCell ⟨w.heap.size, k * 2 + 1, none⟩ (.int .i64 1) = W3 at H3 ⊢
        obtain ⟨n', hn'⟩ : ∃ n', dput n k node = n' := ⟨_, rfl⟩
        obtain ⟨e', he'⟩ : ∃ e', dput e k 1 = e' := ⟨_, rfl⟩
        rw [hn', he'] at H3
        obtain ⟨x0, x1, x2, x3, x4, x5, x6, x7⟩ := H3.z.cells
        have zf := H3.z.free
        obtain ⟨c0, c1, c2, c3, c4, c5, c6, c7⟩ := H3.d.cells
        have HH := veil H3
        have HNE := veil (And.intro hn' he')
        clear H3 hn' he'
        go_wp2
        obtain ⟨W4, hW4, d4, b4⟩ := (unveil HH).out n' e'
        rw [← hW4]
        refine bodyPost_ret (ret_MadeAt d4 rfl rfl) rfl ⟨n', e', 0, rfl, ?_, b4⟩
        have := MakeR.made ok k hk rfl (unveil HD) hn
        rw [(unveil HNE).1, (unveil HNE).2] at this
        exact this
      · rw [decide_eq_false hd] at HN
        have HD := veil hd
        have HH := veil H2
        clear hd H2 h0
        go_wp2_with (go_at_call 47; refine (HN _).mono ?_; rintro r w2 ⟨rfl, hw2⟩; subst w2)
        obtain ⟨W2, hW2, d2, b2⟩ := (unveil HH).zero
        rw [← hW2]
        exact bodyPost_ret (ret_MadeAt d2 rfl rfl) rfl ⟨zeroF, zeroF, 2, rfl, (unveil HW).madeIn (.inr rfl) (unveil HD), b2⟩
    · have HH := veil H2
      clear H2
      have hb7 : (c == 7) = false := by simp [h7]
      have hc7 : (c != 7) = true := by simp [h7]
      have hd7 : decide (c = 7) = false := by simp [h7]
      go_wp2
      obtain ⟨W2, hW2, d2, b2⟩ := (unveil HH).zero
      rw [← hW2]
      exact bodyPost_ret (ret_MadeAt d2 rfl rfl) rfl ⟨zeroF, zeroF, c, rfl, (unveil HW).madeNo h0 h7, b2⟩
set_option maxRecDepth 20000 in
set_option maxHeartbeats 2000000 in
theorem flippedTo_any (n e : Nat → Int) (q ep node : Int) (w : World) : Calls Try.prog 24 #[dirVal n e, .int .i64 q, .int .i64 ep, .int .i64 node] w fun r w' => ∃ a b c, r = .returned (.tuple #[dirVal a b, .int .i64 c]) ∧ FlipR n e q ep node a b c ∧ Below w.heap.size w w' := by
  have HN := fun w => In_any node 0 4 w
  go_enter Try.func24, Try.ntmps24
  go_wp2_with fail
  obtain ⟨W, hW, H⟩ := Mk.made w n e
  rw [← hW]
  clear hW
  refine (whereIs_any n e q _).mono ?_
  rintro r w1 ⟨a, b, c, rfl, hwr, b1⟩
  have H1 := H.next b1
  clear H b1
  have HW := veil hwr
  clear hwr
  go_upto_region 2 with fail
  have P2 := pl_new w1 a b
  have H2 := H1.next (below1 w1 (.cells #[.int .i64 a, .int .i64 b] 23))
  obtain ⟨W2, hW2⟩ : ∃ W2, W2 = w1.alloc (.cells #[.int .i64 a, .int .i64 b] 23) := ⟨_, rfl⟩
  rw [← hW2] at P2 H2 ⊢
  clear hW2 H1
  by_cases hc : c = 0
  case neg =>
    obtain ⟨x0, x1, x2, x3, x4, x5, x6, x7⟩ := H2.z.cells
    have zf := H2.z.free
    have HH := veil H2
    clear H2 P2
    go_wp2
    obtain ⟨W2, hW2, d2, b2⟩ := (unveil HH).zero
    rw [← hW2]
    exact bodyPost_ret (ret_FlippedTo d2 rfl rfl) rfl ⟨zeroF, zeroF, c, rfl, .off a b c (unveil HW) hc, b2⟩
  case pos =>
  subst hc
  obtain ⟨p0, p1⟩ := P2.cells
  by_cases hd : 0 ≤ node ∧ node ≤ 4
  case neg =>
    have hg : goOf a b ep node = 2 := by unfold goOf; rw [if_pos hd]
    rw [decide_eq_false hd] at HN
    obtain ⟨x0, x1, x2, x3, x4, x5, x6, x7⟩ := H2.z.cells
    have zf := H2.z.free
    have HH := veil H2
    have HG := veil hg
    clear H2 P2 hd hg
    go_wp2_with (go_at_call 47; refine (HN _).mono ?_; rintro r w2 ⟨rfl, hw2⟩; subst w2)
    obtain ⟨W2, hW2, d2, b2⟩ := (unveil HH).zero
    rw [← hW2]
    refine bodyPost_ret (ret_FlippedTo d2 rfl rfl) rfl ⟨zeroF, zeroF, 2, rfl, ?_, b2⟩
    have := FlipR.no (ep := ep) (node := node) a b (unveil HW) (by rw [unveil HG]; decide)
    rw [unveil HG] at this
    exact this
  case pos =>
  rw [decide_eq_true hd] at HN
  have HD := veil hd
  by_cases h1 : b = ep
  case neg =>
    have hg : goOf a b ep node = 15 := by unfold goOf; rw [if_neg (fun h => h hd), if_pos h1]
    obtain ⟨x0, x1, x2, x3, x4, x5, x6, x7⟩ := H2.z.cells
    have zf := H2.z.free
    have HH := veil H2
    have HG := veil hg
    clear H2 P2 hd hg
    go_wp2_with (go_at_call 47; refine (HN _).mono ?_; rintro r w2 ⟨rfl, hw2⟩; subst w2)
    obtain ⟨W2, hW2, d2, b2⟩ := (unveil HH).zero
    rw [← hW2]
    refine bodyPost_ret (ret_FlippedTo d2 rfl rfl) rfl ⟨zeroF, zeroF, 15, rfl, ?_, b2⟩
    have := FlipR.no (ep := ep) (node := node) a b (unveil HW) (by rw [unveil HG]; decide)
    rw [unveil HG] at this
    exact this
  case pos =>
  subst h1
  by_cases h2 : a = node
  case pos =>
    have hg : goOf a b b node = 8 := by unfold goOf; rw [if_neg (fun h => h hd), if_neg (fun h => h rfl), if_pos h2]
    subst h2
    obtain ⟨x0, x1, x2, x3, x4, x5, x6, x7⟩ := H2.z.cells
    have zf := H2.z.free
    have HH := veil H2
    have HG := veil hg
    clear H2 P2 hd hg
    go_wp2_with (go_at_call 47; refine (HN _).mono ?_; rintro r w2 ⟨rfl, hw2⟩; subst w2)
    obtain ⟨W2, hW2, d2, b2⟩ := (unveil HH).zero
    rw [← hW2]
    refine bodyPost_ret (ret_FlippedTo d2 rfl rfl) rfl ⟨zeroF, zeroF, 8, rfl, ?_, b2⟩
    have := FlipR.no (ep := b) (node := a) a b (unveil HW) (by rw [unveil HG]; decide)
    rw [unveil HG] at this
    exact this
  case neg =>
  by_cases h3 : b = 1048576
  case pos =>
    have hg : goOf a b b node = 14 := by unfold goOf; rw [if_neg (fun h => h hd), if_neg (fun h => h rfl), if_neg h2, if_pos h3]
    subst h3
    obtain ⟨x0, x1, x2, x3, x4, x5, x6, x7⟩ := H2.z.cells
    have zf := H2.z.free
    have HH := veil H2
    have HG := veil hg
    clear H2 P2 hd hg
    go_wp2_with (go_at_call 47; refine (HN _).mono ?_; rintro r w2 ⟨rfl, hw2⟩; subst w2)
    obtain ⟨W2, hW2, d2, b2⟩ := (unveil HH).zero
    rw [← hW2]
    refine bodyPost_ret (ret_FlippedTo d2 rfl rfl) rfl ⟨zeroF, zeroF, 14, rfl, ?_, b2⟩
    have := FlipR.no (ep := 1048576) (node := node) a 1048576 (unveil HW) (by rw [unveil HG]; decide)
    rw [unveil HG] at this
    exact this
  case neg =>
  have hg : goOf a b b node = 0 := by unfold goOf; rw [if_neg (fun h => h hd), if_neg (fun h => h rfl), if_neg h2, if_neg h3]
  obtain ⟨ok, k, hk, rfl, hn, rfl, rfl⟩ := (unveil HW).at
  have hw : IntKind.i64.wrap (e k + 1) = e k + 1 := by
    have := ok k hk
    unfold PlOk at this
    rw [IntKind.wrap_i64]; omega
  obtain ⟨y, hy⟩ : ∃ y, e k = y := ⟨_, rfl⟩
  obtain ⟨x, hx⟩ : ∃ x, n k = x := ⟨_, rfl⟩
  obtain ⟨d0, d1⟩ := H2.d.at k hk
  have HG := veil hg
  have HNK := veil hn
  rw [hx] at h2 p0 d0
  rw [hy] at p1 hw h3 d1 ⊢
  have HY := veil hy
  have df := H2.d.free
  have hdl := H2.d.lt
  clear hy hx HW hd hg hn P2
  go_upto_region 13 with (go_at_call 47; refine (HN _).mono ?_; rintro r w2 ⟨rfl, hw2⟩; subst w2)
  have H3 := H2.put k hk node (y + 1)
  clear d0 d1 df H2 hdl p0 p1
  generalize (W2.setCell ⟨w.heap.size, k * 2, none⟩ (.int .i64 node)).setCell ⟨w.heap.size, k * 2 + 1, none⟩ (.int .i64 (y + 1)) = W3 at H3 ⊢
  obtain ⟨n', hn'⟩ : ∃ n', dput n k node = n' := ⟨_, rfl⟩
  obtain ⟨e', he'⟩ : ∃ e', dput e k (y + 1) = e' := ⟨_, rfl⟩
  rw [hn', he'] at H3
  obtain ⟨x0, x1, x2, x3, x4, x5, x6, x7⟩ := H3.z.cells
  have zf := H3.z.free
  obtain ⟨c0, c1, c2, c3, c4, c5, c6, c7⟩ := H3.d.cells
  have HH := veil H3
  have HNE := veil (And.intro hn' he')
  clear H3 hn' he'
  go_wp2
  obtain ⟨W4, hW4, d4, b4⟩ := (unveil HH).out n' e'
  rw [← hW4]
  refine bodyPost_ret (ret_FlippedTo d4 rfl rfl) rfl ⟨n', e', 0, rfl, ?_, b4⟩
  rw [← (unveil HNE).1, ← (unveil HNE).2, ← unveil HY]
  exact .flip ok k hk rfl (unveil HNK) (unveil HG)
end Go.Proofs.Ytkeipknbcjkomab
