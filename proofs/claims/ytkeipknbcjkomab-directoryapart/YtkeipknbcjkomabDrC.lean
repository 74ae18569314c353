/- Walks of directory.with, mayGo, Make, Flip. -/
import Derived.Test.YtkeipknbcjkomabDrB
import Derived.Deep.CutRange
namespace Go.Proofs.Ytkeipknbcjkomab
open Go.RowKit

def zeroF : Nat → Int := fun _ => 0
abbrev zeroC : Array Value := #[.int .i64 0, .int .i64 0, .int .i64 0, .int .i64 0, .int .i64 0, .int .i64 0, .int .i64 0, .int .i64 0]
/-- a directory that is answered. -/
theorem dir_stored {w wx : World} {R B : Nat} {n e : Nat → Int} (h : dirBlock wx R n e) (bel : Below B w wx) (hB : B ≤ R) (n' e' : Nat → Int) : ∃ W, W = ((((((((wx.setCell ⟨R, 0, none⟩ (.int .i64 (n' 0))).setCell ⟨R, 1, none⟩ (.int .i64 (e' 0))).setCell ⟨R, 2, none⟩ (.int .i64 (n' 1))).setCell ⟨R, 3, none⟩ (.int .i64 (e' 1))).setCell ⟨R, 4, none⟩ (.int .i64 (n' 2))).setCell ⟨R, 5, none⟩ (.int .i64 (e' 2))).setCell ⟨R, 6, none⟩ (.int .i64 (n' 3))).setCell ⟨R, 7, none⟩ (.int .i64 (e' 3))) ∧ dirBlock W R n' e' ∧ Below B w W :=
  ⟨_, rfl, h.store n' e', (((((((bel.setCell hB _).setCell hB _).setCell hB _).setCell hB _).setCell hB _).setCell hB _).setCell hB _).setCell hB _⟩
theorem ret_with {W : World} {R : Nat} {n e : Nat → Int} {tmps : Array Value} (d : dirBlock W R n e) (t6 : tmps[6]? = some (.pointer (some ⟨R, 0, none⟩))) :
    (results Try.f50 tmps).run Try.prog W = .ok (dirVal n e) W := by
  have h1 := run_loadVar_row (P := Try.prog) W R 26 26 _ (0, 0) _ d Try.underlying26 rfl (by kernel_rfl)
  simp [results, Try.results50, t6, asAddr, h1]
theorem three_boxes (w : World) (n e : Nat → Int) (a b : Int) : ∃ W, W = ((w.alloc (.cells (dirCells n e) 26)).alloc (.cells #[.int .i64 a, .int .i64 b] 23)).alloc (.cells (zeroC) 26) ∧ dirBlock W w.heap.size n e ∧ plBlock W (w.heap.size + 1) a b ∧ dirBlock W (w.heap.size + 2) zeroF zeroF ∧ Below w.heap.size w W := by
  refine ⟨_, rfl, ((dirBlock.new w n e).next (below1 _ _)).next (below1 _ _), ?_, ?_, (below2 w _ _).trans ((below1 _ _).mono (by simp; omega))⟩
  · have h0 := heap_alloc_new (w.alloc (.cells (dirCells n e) 26)) (.cells #[.int .i64 a, .int .i64 b] 23)
    rw [show (w.alloc (.cells (dirCells n e) 26)).heap.size = w.heap.size + 1 by simp] at h0
    exact plBlock.next h0 (below1 _ _)
  · have h0 := heap_alloc_new ((w.alloc (.cells (dirCells n e) 26)).alloc (.cells #[.int .i64 a, .int .i64 b] 23)) (.cells (zeroC) 26)
    rw [show ((w.alloc (.cells (dirCells n e) 26)).alloc (.cells #[.int .i64 a, .int .i64 b] 23)).heap.size = w.heap.size + 2 by simp] at h0
    exact h0
set_option maxRecDepth 20000 in
set_option maxHeartbeats 2000000 in
theorem with_any (n e : Nat → Int) (k : Nat) (a b : Int) (w : World) (hk : k < 4) : Calls Try.prog 50 #[dirVal n e, .int .i64 k, plVal a b] w fun r w' => r = .returned (dirVal (dput n k a) (dput e k b)) ∧ Below w.heap.size w w' := by
  go_enter Try.func50, Try.ntmps50
  go_upto_region 1 with fail
  obtain ⟨W, hW, d, p, z, B0⟩ := three_boxes w n e a b
  rw [← hW]
  clear hW
  obtain ⟨d0, d1⟩ := d.at k hk
  obtain ⟨p0, p1⟩ := p.cells
  have df := d.free
  have hd := d.lt
  go_upto_region 2 with fail
  have d' := d.put k hk a b
  have z' : dirBlock ((W.setCell ⟨w.heap.size, k * 2, none⟩ (.int .i64 a)).setCell ⟨w.heap.size, k * 2 + 1, none⟩ (.int .i64 b)) (w.heap.size + 2) zeroF zeroF := by
    unfold dirBlock at z ⊢
    rw [Below.heap_setCell _ _ _ _ (by simp), Below.heap_setCell _ _ _ _ (by simp)]
    exact z
  have B1 : Below w.heap.size w ((W.setCell ⟨w.heap.size, k * 2, none⟩ (.int .i64 a)).setCell ⟨w.heap.size, k * 2 + 1, none⟩ (.int .i64 b)) := (B0.setCell (Nat.le_refl _) _).setCell (Nat.le_refl _) _
  clear d0 d1 p0 p1 df d p z B0
  generalize (W.setCell ⟨w.heap.size, k * 2, none⟩ (.int .i64 a)).setCell ⟨w.heap.size, k * 2 + 1, none⟩ (.int .i64 b) = W1 at d' z' B1 ⊢
  obtain ⟨c0, c1, c2, c3, c4, c5, c6, c7⟩ := d'.cells
  obtain ⟨x0, x1, x2, x3, x4, x5, x6, x7⟩ := z'.cells
  have zf := z'.free
  have HZ := veil z'
  have HB := veil B1
  clear d' z' B1
  obtain ⟨n', hn⟩ : ∃ n', dput n k a = n' := ⟨_, rfl⟩
  obtain ⟨e', he⟩ : ∃ e', dput e k b = e' := ⟨_, rfl⟩
  rw [hn] at c0 c2 c4 c6
  rw [he] at c1 c3 c5 c7
  have HN := veil (And.intro hn he)
  clear hn he
  go_wp2
  obtain ⟨W2, hW2, d2, b2⟩ := dir_stored (unveil HZ) (unveil HB) (show w.heap.size ≤ w.heap.size + 2 by omega) n' e'
  rw [← hW2]
  exact bodyPost_ret (ret_with d2 rfl) rfl ⟨by rw [(unveil HN).1, (unveil HN).2], b2⟩
/-- what mayGo answers. -/
def goOf (x y ep node : Int) : Int := if ¬ (0 ≤ node ∧ node ≤ 4) then 2 else if ¬ y = ep then 15 else if x = node then 8 else if y = 1048576 then 14 else 0
set_option maxRecDepth 20000 in
theorem mayGo_any (x y ep node : Int) (w : World) : Calls Try.prog 51 #[plVal x y, .int .i64 ep, .int .i64 node] w fun r w' => r = .returned (.int .i64 (goOf x y ep node)) ∧ Below w.heap.size w w' := by
  have HN := fun w => isNode_any node w
  unfold goOf
  by_cases h1 : 0 ≤ node ∧ node ≤ 4
  · rw [decide_eq_true h1] at HN
    rw [if_neg (fun h => h h1)]
    clear h1
    by_cases h2 : y = ep
    · rw [if_neg (fun h => h h2)]
      by_cases h3 : x = node
      · rw [if_pos h3]
        go_enter Try.func51, Try.ntmps51
        go_wp2_with (go_at_call 49; refine (HN _).mono ?_; rintro r w1 ⟨rfl, rfl⟩)
        go_ret
        exact ⟨rfl, below1 _ _⟩
      · rw [if_neg h3]
        by_cases h4 : y = 1048576
        · rw [if_pos h4]
          go_enter Try.func51, Try.ntmps51
          go_wp2_with (go_at_call 49; refine (HN _).mono ?_; rintro r w1 ⟨rfl, rfl⟩)
          go_ret
          exact ⟨rfl, below1 _ _⟩
        · rw [if_neg h4]
          go_enter Try.func51, Try.ntmps51
          go_wp2_with (go_at_call 49; refine (HN _).mono ?_; rintro r w1 ⟨rfl, rfl⟩)
          go_ret
          exact ⟨rfl, below1 _ _⟩
    · rw [if_pos h2]
      go_enter Try.func51, Try.ntmps51
      go_wp2_with (go_at_call 49; refine (HN _).mono ?_; rintro r w1 ⟨rfl, rfl⟩)
      go_ret
      exact ⟨rfl, below1 _ _⟩
  · rw [decide_eq_false h1] at HN
    rw [if_pos h1]
    clear h1
    go_enter Try.func51, Try.ntmps51
    go_wp2_with (go_at_call 49; refine (HN _).mono ?_; rintro r w1 ⟨rfl, rfl⟩)
    go_ret
    exact ⟨rfl, below1 _ _⟩
/-- what Make answers. -/
inductive MakeR (n e : Nat → Int) (q node : Int) : (Nat → Int) → (Nat → Int) → Int → Prop
  | state (h : ¬ DirOk n e) : MakeR n e q node zeroF zeroF 6
  | range (h : DirOk n e) (hq : ¬ ((0 ≤ q ∧ q ≤ 3) ∧ (0 ≤ node ∧ node ≤ 4))) : MakeR n e q node zeroF zeroF 2
  | twice (h : DirOk n e) (k : Nat) (hk : k < 4) (hq : q = k) (hd : 0 ≤ node ∧ node ≤ 4) (hn : ¬ n k = -1) : MakeR n e q node zeroF zeroF 8
  | made (h : DirOk n e) (k : Nat) (hk : k < 4) (hq : q = k) (hd : 0 ≤ node ∧ node ≤ 4) (hn : n k = -1) : MakeR n e q node (dput n k node) (dput e k 1) 0
theorem MakeR.one {n e : Nat → Int} {q node : Int} {a b : Nat → Int} {c : Int} {a' b' : Nat → Int} {c' : Int} (h : MakeR n e q node a b c) (h' : MakeR n e q node a' b' c') : a = a' ∧ b = b' ∧ c = c' := by
  cases h with
  | state h1 => cases h' with
    | state => exact ⟨rfl, rfl, rfl⟩
    | range h2 => exact absurd h2 h1
    | twice h2 => exact absurd h2 h1
    | made h2 => exact absurd h2 h1
  | range h1 hq => cases h' with
    | state h2 => exact absurd h1 h2
    | range h2 => exact ⟨rfl, rfl, rfl⟩
    | twice h2 k hk hq' => omega
    | made h2 k hk hq' => omega
  | twice h1 k hk hq hd hn => cases h' with
    | state h2 => exact absurd h1 h2
    | range h2 => omega
    | twice h2 k hk hq' => exact ⟨rfl, rfl, rfl⟩
    | made h2 k' hk' hq' hd' hn' =>
      obtain rfl : k = k' := by omega
      exact absurd hn' hn
  | made h1 k hk hq hd hn => cases h' with
    | state h2 => exact absurd h1 h2
    | range h2 => omega
    | twice h2 k' hk' hq' hd' hn' =>
      obtain rfl : k = k' := by omega
      exact absurd hn hn'
    | made h2 k' hk' hq' hd' hn' =>
      obtain rfl : k = k' := by omega
      exact ⟨rfl, rfl, rfl⟩
/-- the two boxes of Make. -/
structure Mk (w wx : World) (n e : Nat → Int) : Prop where
  d : dirBlock wx w.heap.size n e
  z : dirBlock wx (w.heap.size + 1) zeroF zeroF
  bel : Below w.heap.size w wx
theorem Mk.next {w wx wy : World} {n e : Nat → Int} (h : Mk w wx n e) (b : Below wx.heap.size wx wy) : Mk w wy n e := ⟨h.d.next b, h.z.next b, Below.next h.bel b⟩
theorem Mk.made (w : World) (n e : Nat → Int) : ∃ W, W = (w.alloc (.cells (dirCells n e) 26)).alloc (.cells zeroC 26) ∧ Mk w W n e := by
  refine ⟨_, rfl, (dirBlock.new w n e).next (below1 _ _), ?_, below2 _ _ _⟩
  have h0 := heap_alloc_new (w.alloc (.cells (dirCells n e) 26)) (.cells zeroC 26)
  rw [show (w.alloc (.cells (dirCells n e) 26)).heap.size = w.heap.size + 1 by simp] at h0
  exact h0
theorem ret_Make {W : World} {R : Nat} {n e : Nat → Int} {c : Int} {tmps : Array Value} (d : dirBlock W R n e) (t6 : tmps[6]? = some (.pointer (some ⟨R, 0, none⟩))) (t7 : tmps[7]? = some (.int .i64 c)) :
    (results Try.f21 tmps).run Try.prog W = .ok (.tuple #[dirVal n e, .int .i64 c]) W := by
  have h1 := run_loadVar_row (P := Try.prog) W R 26 26 _ (0, 0) _ d Try.underlying26 rfl (by kernel_rfl)
  simp [results, Try.results21, t6, t7, asAddr, h1]
theorem Mk.out {w wx : World} {n e : Nat → Int} (h : Mk w wx n e) (n' e' : Nat → Int) : ∃ W, W = ((((((((wx.setCell ⟨w.heap.size + 1, 0, none⟩ (.int .i64 (n' 0))).setCell ⟨w.heap.size + 1, 1, none⟩ (.int .i64 (e' 0))).setCell ⟨w.heap.size + 1, 2, none⟩ (.int .i64 (n' 1))).setCell ⟨w.heap.size + 1, 3, none⟩ (.int .i64 (e' 1))).setCell ⟨w.heap.size + 1, 4, none⟩ (.int .i64 (n' 2))).setCell ⟨w.heap.size + 1, 5, none⟩ (.int .i64 (e' 2))).setCell ⟨w.heap.size + 1, 6, none⟩ (.int .i64 (n' 3))).setCell ⟨w.heap.size + 1, 7, none⟩ (.int .i64 (e' 3))) ∧ dirBlock W (w.heap.size + 1) n' e' ∧ Below w.heap.size w W := dir_stored h.z h.bel (show w.heap.size ≤ w.heap.size + 1 by omega) n' e'
theorem Mk.zero {w wx : World} {n e : Nat → Int} (h : Mk w wx n e) : ∃ W, W = ((((((((wx.setCell ⟨w.heap.size + 1, 0, none⟩ (.int .i64 0)).setCell ⟨w.heap.size + 1, 1, none⟩ (.int .i64 0)).setCell ⟨w.heap.size + 1, 2, none⟩ (.int .i64 0)).setCell ⟨w.heap.size + 1, 3, none⟩ (.int .i64 0)).setCell ⟨w.heap.size + 1, 4, none⟩ (.int .i64 0)).setCell ⟨w.heap.size + 1, 5, none⟩ (.int .i64 0)).setCell ⟨w.heap.size + 1, 6, none⟩ (.int .i64 0)).setCell ⟨w.heap.size + 1, 7, none⟩ (.int .i64 0)) ∧ dirBlock W (w.heap.size + 1) zeroF zeroF ∧ Below w.heap.size w W := h.out zeroF zeroF

set_option maxRecDepth 20000 in
set_option maxHeartbeats 2000000 in
theorem make_any (n e : Nat → Int) (q node : Int) (w : World) : Calls Try.prog 21 #[dirVal n e, .int .i64 q, .int .i64 node] w fun r w' => ∃ a b c, r = .returned (.tuple #[dirVal a b, .int .i64 c]) ∧ MakeR n e q node a b c ∧ Below w.heap.size w w' := by
  by_cases ok : DirOk n e
  case neg =>
    go_enter Try.func21, Try.ntmps21
    go_wp2_with fail
    obtain ⟨W, hW, H⟩ := Mk.made w n e
    rw [← hW]
    clear hW
    refine (dcheck_no n e _ ok).mono ?_
    rintro r w1 ⟨rfl, b1⟩
    have H1 := H.next b1
    clear H b1
    obtain ⟨x0, x1, x2, x3, x4, x5, x6, x7⟩ := H1.z.cells
    have zf := H1.z.free
    have HH := veil H1
    clear H1
    go_wp2
    obtain ⟨W2, hW2, d2, b2⟩ := (unveil HH).zero
    rw [← hW2]
    exact bodyPost_ret (ret_Make d2 rfl rfl) rfl ⟨zeroF, zeroF, 6, rfl, .state ok, b2⟩
  case pos =>
  have HQ := fun w => isQueue_any q w
  have HN := fun w => isNode_any node w
  by_cases hq : 0 ≤ q ∧ q ≤ 3
  case neg =>
    rw [decide_eq_false hq] at HQ
    go_enter Try.func21, Try.ntmps21
    go_wp2_with fail
    obtain ⟨W, hW, H⟩ := Mk.made w n e
    rw [← hW]
    clear hW
    refine (dcheck_yes n e _ ok).mono ?_
    rintro r w1 ⟨rfl, b1⟩
    have H1 := H.next b1
    clear H b1
    go_wp2_with (go_at_call 48; refine (HQ _).mono ?_; rintro r w2 ⟨rfl, hw2⟩; subst w2; have H2 := H1; obtain ⟨x0, x1, x2, x3, x4, x5, x6, x7⟩ := H2.z.cells; have zf := H2.z.free; have HH := veil H2; clear H1 H2)
    obtain ⟨W2, hW2, d2, b2⟩ := (unveil HH).zero
    rw [← hW2]
    exact bodyPost_ret (ret_Make d2 rfl rfl) rfl ⟨zeroF, zeroF, 2, rfl, .range ok (fun h => hq h.1), b2⟩
  case pos =>
  rw [decide_eq_true hq] at HQ
  by_cases hd : 0 ≤ node ∧ node ≤ 4
  case neg =>
    rw [decide_eq_false hd] at HN
    go_enter Try.func21, Try.ntmps21
    go_wp2_with fail
    obtain ⟨W, hW, H⟩ := Mk.made w n e
    rw [← hW]
    clear hW
    refine (dcheck_yes n e _ ok).mono ?_
    rintro r w1 ⟨rfl, b1⟩
    have H1 := H.next b1
    clear H b1
    go_wp2_with (first | (go_at_call 48; refine (HQ _).mono ?_; rintro r w2 ⟨rfl, hw2⟩; subst w2) | (go_at_call 49; refine (HN _).mono ?_; rintro r w3 ⟨rfl, hw3⟩; subst w3; have H2 := H1; obtain ⟨x0, x1, x2, x3, x4, x5, x6, x7⟩ := H2.z.cells; have zf := H2.z.free; have HH := veil H2; clear H1 H2))
    obtain ⟨W2, hW2, d2, b2⟩ := (unveil HH).zero
    rw [← hW2]
    exact bodyPost_ret (ret_Make d2 rfl rfl) rfl ⟨zeroF, zeroF, 2, rfl, .range ok (fun h => hd h.2), b2⟩
  case pos =>
  rw [decide_eq_true hd] at HN
  obtain ⟨k, rfl⟩ : ∃ k : Nat, q = k := ⟨q.toNat, by omega⟩
  have hk : k < 4 := by omega
  clear hq
  go_enter Try.func21, Try.ntmps21
  go_wp2_with fail
  obtain ⟨W, hW, H⟩ := Mk.made w n e
  rw [← hW]
  clear hW
  refine (dcheck_yes n e _ ok).mono ?_
  rintro r w1 ⟨rfl, b1⟩
  have H1 := H.next b1
  clear H b1
  go_wp2_with (first | (go_at_call 48; refine (HQ _).mono ?_; rintro r w2 ⟨rfl, hw2⟩; subst w2) | (go_at_call 49; refine (HN _).mono ?_; rintro r w3 ⟨rfl, hw3⟩; subst w3; have H2 := H1; clear H1))
  clear HQ HN
  obtain ⟨x, hx⟩ : ∃ x, n k = x := ⟨_, rfl⟩
  obtain ⟨y, hy⟩ : ∃ y, e k = y := ⟨_, rfl⟩
  obtain ⟨d0, d1⟩ := H2.d.at k hk
  rw [hx] at d0
  rw [hy] at d1
  have HX := veil (And.intro hx hy)
  have hpl : (x = -1 ∧ y = 0) ∨ (¬ x = -1 ∧ 0 ≤ x) := by
    have := ok k hk
    rw [hx, hy] at this
    unfold PlOk at this
    omega
  have HH := veil H2
  clear hx hy
  have HD : Hid (∀ wx, Below w1.heap.size w1 wx → wx.cell? ⟨w.heap.size, k * 2, none⟩ = some (.int .i64 x) ∧ wx.cell? ⟨w.heap.size, k * 2 + 1, none⟩ = some (.int .i64 y)) := veil fun wx b => by
    have := (H2.next b).d.at k hk
    rw [(unveil HX).1, (unveil HX).2] at this
    exact this
  clear H2
  rcases hpl with ⟨rfl, rfl⟩ | ⟨hn, hx0⟩
  · go_cut [29] (fun c wx => c = .bool false ∧ Below w1.heap.size w1 wx)
    case first =>
      first | go_region_with (go_at_call 45; refine (nowhere_any _).mono ?_; rintro r w5 ⟨rfl, bb⟩; have b5 : Below w1.heap.size w1 w5 := (by first | exact bb | exact Below.next (belowN _ _) bb | exact Below.next (below_drew _) bb); obtain ⟨q0, q1⟩ := unveil HD _ b5) | fail
      all_goals (try go_wp2_with fail)
      all_goals go_meet
      all_goals exact ⟨rfl, b5⟩
    case rest =>
      obtain ⟨rfl, b7⟩ := hcut
      have H3 := (unveil HH).next b7
      obtain ⟨c0, c1, c2, c3, c4, c5, c6, c7⟩ := H3.d.cells
      have HH3 := veil H3
      clear H3 d0 d1
      go_wp2_with (go_at_call 50; refine (with_any n e k node 1 _ hk).mono ?_; rintro r w8 ⟨rfl, b8⟩; have H8 := (unveil HH3).next b8; obtain ⟨x0, x1, x2, x3, x4, x5, x6, x7⟩ := H8.z.cells; have zf := H8.z.free; have HH8 := veil H8; clear H8 b8 c0 c1 c2 c3 c4 c5 c6 c7)
      obtain ⟨W3, hW3, d3, b3⟩ := (unveil HH8).out (dput n k node) (dput e k 1)
      rw [← hW3]
      exact bodyPost_ret (ret_Make d3 rfl rfl) rfl ⟨_, _, 0, rfl, .made ok k hk rfl hd (unveil HX).1, b3⟩
  · go_cut [29] (fun c wx => c = .bool true ∧ Below w1.heap.size w1 wx)
    case first =>
      first | go_region_with (go_at_call 45; refine (nowhere_any _).mono ?_; rintro r w5 ⟨rfl, bb⟩; have b5 : Below w1.heap.size w1 w5 := (by first | exact bb | exact Below.next (belowN _ _) bb | exact Below.next (below_drew _) bb); obtain ⟨q0, q1⟩ := unveil HD _ b5) | fail
      all_goals (try go_wp2_with fail)
      all_goals go_meet
      all_goals exact ⟨rfl, b5⟩
    case rest =>
      obtain ⟨rfl, b7⟩ := hcut
      have H3 := (unveil HH).next b7
      obtain ⟨x0, x1, x2, x3, x4, x5, x6, x7⟩ := H3.z.cells
      have zf := H3.z.free
      have HH3 := veil H3
      clear H3 d0 d1
      go_wp2
      obtain ⟨W3, hW3, d3, b3⟩ := (unveil HH3).zero
      rw [← hW3]
      exact bodyPost_ret (ret_Make d3 rfl rfl) rfl ⟨zeroF, zeroF, 8, rfl, .twice ok k hk rfl hd (fun h => hn ((unveil HX).1.symm.trans h)), b3⟩
end Go.Proofs.Ytkeipknbcjkomab
