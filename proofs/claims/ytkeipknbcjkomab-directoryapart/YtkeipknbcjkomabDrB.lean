/- Walks of directory.Where, with, mayGo. -/
import Derived.Test.YtkeipknbcjkomabDrA
namespace Go.Proofs.Ytkeipknbcjkomab
open Go.RowKit

theorem dcheck_yes (n e : Nat → Int) (w : World) (h : DirOk n e) : Calls Try.prog 15 #[dirVal n e] w fun r w' => r = .returned (.int .i64 0) ∧ Below w.heap.size w w' := by
  refine (dcheck_any n e w).mono ?_
  rintro r w' ⟨⟨_, hr⟩ | ⟨h', _⟩, b⟩
  · exact ⟨hr, b⟩
  · exact absurd h h'
theorem dcheck_no (n e : Nat → Int) (w : World) (h : ¬ DirOk n e) : Calls Try.prog 15 #[dirVal n e] w fun r w' => r = .returned (.int .i64 6) ∧ Below w.heap.size w w' := by
  refine (dcheck_any n e w).mono ?_
  rintro r w' ⟨⟨h', _⟩ | ⟨_, hr⟩, b⟩
  · exact absurd h' h
  · exact ⟨hr, b⟩
/-- a directory in memory. -/
def dirBlock (w : World) (R : Nat) (n e : Nat → Int) : Prop := w.heap[R]? = some (.cells (dirCells n e) 26 (0, 0))
section
variable {w w' : World} {R : Nat} {n e : Nat → Int}
theorem dirBlock.cells (h : dirBlock w R n e) : w.cell? ⟨R, 0, none⟩ = some (.int .i64 (n 0)) ∧ w.cell? ⟨R, 1, none⟩ = some (.int .i64 (e 0)) ∧ w.cell? ⟨R, 2, none⟩ = some (.int .i64 (n 1)) ∧ w.cell? ⟨R, 3, none⟩ = some (.int .i64 (e 1)) ∧ w.cell? ⟨R, 4, none⟩ = some (.int .i64 (n 2)) ∧ w.cell? ⟨R, 5, none⟩ = some (.int .i64 (e 2)) ∧ w.cell? ⟨R, 6, none⟩ = some (.int .i64 (n 3)) ∧ w.cell? ⟨R, 7, none⟩ = some (.int .i64 (e 3)) := by
  unfold dirBlock at h; simp [World.cell?, h]
theorem dirBlock.at (h : dirBlock w R n e) : ∀ k, k < 4 → w.cell? ⟨R, k * 2, none⟩ = some (.int .i64 (n k)) ∧ w.cell? ⟨R, k * 2 + 1, none⟩ = some (.int .i64 (e k)) := by
  obtain ⟨a, b, c, d, e, f, g, h⟩ := h.cells
  exact below4d ⟨a, b⟩ ⟨c, d⟩ ⟨e, f⟩ ⟨g, h⟩
theorem dirBlock.lt (h : dirBlock w R n e) : R < w.heap.size := by
  unfold dirBlock at h
  rcases Nat.lt_or_ge R w.heap.size with h' | h'
  · exact h'
  · simp [Array.getElem?_eq_none h'] at h
theorem dirBlock.next (h : dirBlock w R n e) (hb : Below w.heap.size w w') : dirBlock w' R n e := by
  have := h.lt
  unfold dirBlock at h ⊢; rw [← h]; exact hb.block R this
theorem dirBlock.free (h : dirBlock w R n e) (o : Nat) : w.frozen? ⟨R, o, none⟩ = false := by
  unfold dirBlock at h; simp [World.frozen?, h]
theorem plBlock.free {x y : Int} (h : plBlock w R x y) (o : Nat) : w.frozen? ⟨R, o, none⟩ = false := by
  unfold plBlock at h; simp [World.frozen?, h]
theorem dirBlock.new (w : World) (n e : Nat → Int) : dirBlock (w.alloc (.cells (dirCells n e) 26)) w.heap.size n e := heap_alloc_new w _
theorem heap_set' {o : Nat} {cs : Array Value} {T : TypeId} {v : Value} (h : w.heap[R]? = some (.cells cs T (0, 0))) : (w.setCell ⟨R, o, none⟩ v).heap[R]? = some (.cells (cs.set! o v) T (0, 0)) := by
  rw [setCell_eq_setRow w R o _ _ (0, 0) _ h, setRow_heap w R _ _ _ _ h]
  rfl
theorem plBlock.store {x y : Int} (h : plBlock w R x y) (a b : Int) : plBlock ((w.setCell ⟨R, 0, none⟩ (.int .i64 a)).setCell ⟨R, 1, none⟩ (.int .i64 b)) R a b := by
  unfold plBlock at h ⊢
  rw [heap_set' (heap_set' h)]
  simp
/-- one place put. -/
def dput (f : Nat → Int) (k : Nat) (x : Int) : Nat → Int := fun q => if q = k then x else f q
theorem dirBlock.put (h : dirBlock w R n e) (k : Nat) (hk : k < 4) (a b : Int) : dirBlock ((w.setCell ⟨R, k * 2, none⟩ (.int .i64 a)).setCell ⟨R, k * 2 + 1, none⟩ (.int .i64 b)) R (dput n k a) (dput e k b) := by
  unfold dirBlock at h ⊢
  rw [heap_set' (heap_set' h)]
  have : ∀ k, k < 4 → ((dirCells n e).set! (k * 2) (.int .i64 a)).set! (k * 2 + 1) (.int .i64 b) = dirCells (dput n k a) (dput e k b) := by
    refine below4d ?_ ?_ ?_ ?_ <;> simp [dput]
  rw [this k hk]
theorem dirBlock.store (h : dirBlock w R n e) (n' e' : Nat → Int) : dirBlock ((((((((w.setCell ⟨R, 0, none⟩ (.int .i64 (n' 0))).setCell ⟨R, 1, none⟩ (.int .i64 (e' 0))).setCell ⟨R, 2, none⟩ (.int .i64 (n' 1))).setCell ⟨R, 3, none⟩ (.int .i64 (e' 1))).setCell ⟨R, 4, none⟩ (.int .i64 (n' 2))).setCell ⟨R, 5, none⟩ (.int .i64 (e' 2))).setCell ⟨R, 6, none⟩ (.int .i64 (n' 3))).setCell ⟨R, 7, none⟩ (.int .i64 (e' 3))) R n' e' := by
  unfold dirBlock at h ⊢
  rw [heap_set' (heap_set' (heap_set' (heap_set' (heap_set' (heap_set' (heap_set' (heap_set' h)))))))]
  simp
end
/-- what Where answers. -/
inductive WhereR (n e : Nat → Int) (q : Int) : Int → Int → Int → Prop
  | state (h : ¬ DirOk n e) : WhereR n e q 0 0 6
  | range (h : DirOk n e) (hq : ¬ (0 ≤ q ∧ q ≤ 3)) : WhereR n e q 0 0 2
  | none (h : DirOk n e) (k : Nat) (hk : k < 4) (hq : q = k) (hn : n k = -1) : WhereR n e q 0 0 7
  | here (h : DirOk n e) (k : Nat) (hk : k < 4) (hq : q = k) (hn : ¬ n k = -1) : WhereR n e q (n k) (e k) 0
theorem WhereR.one {n e : Nat → Int} {q a b c a' b' c' : Int} (h : WhereR n e q a b c) (h' : WhereR n e q a' b' c') : a = a' ∧ b = b' ∧ c = c' := by
  cases h with
  | state h1 => cases h' with
    | state => exact ⟨rfl, rfl, rfl⟩
    | range h2 => exact absurd h2 h1
    | none h2 => exact absurd h2 h1
    | here h2 => exact absurd h2 h1
  | range h1 hq => cases h' with
    | state h2 => exact absurd h1 h2
    | range h2 => exact ⟨rfl, rfl, rfl⟩
    | none h2 k hk hq' => omega
    | here h2 k hk hq' => omega
  | none h1 k hk hq hn => cases h' with
    | state h2 => exact absurd h1 h2
    | range h2 => omega
    | none h2 k hk hq' => exact ⟨rfl, rfl, rfl⟩
    | here h2 k' hk' hq' hn' =>
      obtain rfl : k = k' := by omega
      exact absurd hn hn'
  | here h1 k hk hq hn => cases h' with
    | state h2 => exact absurd h1 h2
    | range h2 => omega
    | none h2 k' hk' hq' hn' =>
      obtain rfl : k = k' := by omega
      exact absurd hn' hn
    | here h2 k' hk' hq' hn' =>
      obtain rfl : k = k' := by omega
      exact ⟨rfl, rfl, rfl⟩
/-- the two boxes of Where. -/
structure Wh (w wx : World) (n e : Nat → Int) : Prop where
  d : dirBlock wx w.heap.size n e
  p : plBlock wx (w.heap.size + 1) 0 0
  bel : Below w.heap.size w wx
theorem Wh.next {w wx wy : World} {n e : Nat → Int} (h : Wh w wx n e) (b : Below wx.heap.size wx wy) : Wh w wy n e := ⟨h.d.next b, h.p.next b, Below.next h.bel b⟩
theorem Wh.made (w : World) (n e : Nat → Int) : ∃ W, W = (w.alloc (.cells (dirCells n e) 26)).alloc (.cells #[.int .i64 0, .int .i64 0] 23) ∧ Wh w W n e := by
  refine ⟨_, rfl, (dirBlock.new w n e).next (below1 _ _), ?_, below2 _ _ _⟩
  have h0 := heap_alloc_new (w.alloc (.cells (dirCells n e) 26)) (.cells #[.int .i64 0, .int .i64 0] 23)
  rw [show (w.alloc (.cells (dirCells n e) 26)).heap.size = w.heap.size + 1 by simp] at h0
  exact h0
theorem ret_Where {W : World} {R : Nat} {a b c : Int} {tmps : Array Value} (p : plBlock W R a b) (t4 : tmps[4]? = some (.pointer (some ⟨R, 0, none⟩))) (t5 : tmps[5]? = some (.int .i64 c)) :
    (results Try.f19 tmps).run Try.prog W = .ok (.tuple #[plVal a b, .int .i64 c]) W := by
  have h1 := run_loadVar_row (P := Try.prog) W R 23 23 _ (0, 0) _ p Try.underlying23 rfl (by kernel_rfl)
  simp [results, Try.results19, t4, t5, asAddr, h1]
theorem Wh.out {w wx : World} {n e : Nat → Int} (h : Wh w wx n e) (a b : Int) : plBlock ((wx.setCell ⟨w.heap.size + 1, 0, none⟩ (.int .i64 a)).setCell ⟨w.heap.size + 1, 1, none⟩ (.int .i64 b)) (w.heap.size + 1) a b ∧ Below w.heap.size w ((wx.setCell ⟨w.heap.size + 1, 0, none⟩ (.int .i64 a)).setCell ⟨w.heap.size + 1, 1, none⟩ (.int .i64 b)) :=
  ⟨h.p.store a b, (h.bel.setCell (show w.heap.size ≤ w.heap.size + 1 by omega) _).setCell (show w.heap.size ≤ w.heap.size + 1 by omega) _⟩

set_option maxRecDepth 20000 in
set_option maxHeartbeats 2000000 in
theorem where_any (n e : Nat → Int) (q : Int) (w : World) : Calls Try.prog 19 #[dirVal n e, .int .i64 q] w fun r w' => ∃ a b c, r = .returned (.tuple #[plVal a b, .int .i64 c]) ∧ WhereR n e q a b c ∧ Below w.heap.size w w' := by
  by_cases ok : DirOk n e
  case neg =>
    go_enter Try.func19, Try.ntmps19
    go_wp2_with fail
    obtain ⟨W, hW, H⟩ := Wh.made w n e
    rw [← hW]
    clear hW
    refine (dcheck_no n e _ ok).mono ?_
    rintro r w1 ⟨rfl, b1⟩
    have H1 := H.next b1
    clear H b1
    obtain ⟨p0, p1⟩ := H1.p.cells
    have pf := H1.p.free
    go_wp2
    obtain ⟨o, b⟩ := H1.out 0 0
    exact bodyPost_ret (ret_Where o rfl rfl) rfl ⟨0, 0, 6, rfl, .state ok, b⟩
  case pos =>
  have HQ := fun w => isQueue_any q w
  by_cases hq : 0 ≤ q ∧ q ≤ 3
  case neg =>
    rw [decide_eq_false hq] at HQ
    go_enter Try.func19, Try.ntmps19
    go_wp2_with fail
    obtain ⟨W, hW, H⟩ := Wh.made w n e
    rw [← hW]
    clear hW
    refine (dcheck_yes n e _ ok).mono ?_
    rintro r w1 ⟨rfl, b1⟩
    have H1 := H.next b1
    clear H b1
    go_wp2_with (go_at_call 48; refine (HQ _).mono ?_; rintro r w2 ⟨rfl, hw2⟩; subst w2; have H2 := H1; obtain ⟨p0, p1⟩ := H2.p.cells; have pf := H2.p.free; clear H1)
    obtain ⟨o, b⟩ := H2.out 0 0
    exact bodyPost_ret (ret_Where o rfl rfl) rfl ⟨0, 0, 2, rfl, .range ok hq, b⟩
  case pos =>
  rw [decide_eq_true hq] at HQ
  obtain ⟨k, rfl⟩ : ∃ k : Nat, q = k := ⟨q.toNat, by omega⟩
  have hk : k < 4 := by omega
  clear hq
  go_enter Try.func19, Try.ntmps19
  go_wp2_with fail
  obtain ⟨W, hW, H⟩ := Wh.made w n e
  rw [← hW]
  clear hW
  refine (dcheck_yes n e _ ok).mono ?_
  rintro r w1 ⟨rfl, b1⟩
  have H1 := H.next b1
  clear H b1
  go_wp2_with (go_at_call 48; refine (HQ _).mono ?_; rintro r w2 ⟨rfl, hw2⟩; subst w2; have H2 := H1; obtain ⟨d0, d1⟩ := H2.d.at k hk; clear H1)
  clear HQ
  obtain ⟨x, hx⟩ : ∃ x, n k = x := ⟨_, rfl⟩
  obtain ⟨y, hy⟩ : ∃ y, e k = y := ⟨_, rfl⟩
  rw [hx] at d0
  rw [hy] at d1
  have HK := veil hk
  have HX := veil (And.intro hx hy)
  have hpl : (x = -1 ∧ y = 0) ∨ (¬ x = -1 ∧ 0 ≤ x) := by
    have := ok k hk
    rw [hx, hy] at this
    unfold PlOk at this
    omega
  have HH := veil H2
  clear hx hy
  have HD : Hid (∀ wx, Below w1.heap.size w1 wx → wx.cell? ⟨w.heap.size, k * 2, none⟩ = some (.int .i64 x) ∧ wx.cell? ⟨w.heap.size, k * 2 + 1, none⟩ = some (.int .i64 y)) := veil fun wx b => by
    have := (H2.next b).d.at k hk
    rw [(unveil HX).1, (unveil HX).2] at this
    exact this
  clear H2
  rcases hpl with ⟨rfl, rfl⟩ | ⟨hn, hx0⟩
  · go_cut [22] (fun c wx => c = .bool true ∧ Below w1.heap.size w1 wx)
    case first =>
      first | go_region_with (go_at_call 45; refine (nowhere_any _).mono ?_; rintro r w5 ⟨rfl, bb⟩; have b5 : Below w1.heap.size w1 w5 := (by first | exact bb | exact Below.next (belowN _ _) bb | exact Below.next (below_drew _) bb); obtain ⟨q0, q1⟩ := unveil HD _ b5) | fail
      all_goals (try go_wp2_with fail)
      all_goals go_meet
      all_goals exact ⟨rfl, b5⟩
    case rest =>
      obtain ⟨rfl, b7⟩ := hcut
      have H3 := (unveil HH).next b7
      obtain ⟨p0, p1⟩ := H3.p.cells
      have pf := H3.p.free
      go_wp2
      obtain ⟨o, b⟩ := H3.out 0 0
      exact bodyPost_ret (ret_Where o rfl rfl) rfl ⟨0, 0, 7, rfl, .none ok k hk rfl (unveil HX).1, b⟩
  · go_cut [22] (fun c wx => c = .bool false ∧ Below w1.heap.size w1 wx)
    case first =>
      first | go_region_with (go_at_call 45; refine (nowhere_any _).mono ?_; rintro r w5 ⟨rfl, bb⟩; have b5 : Below w1.heap.size w1 w5 := (by first | exact bb | exact Below.next (belowN _ _) bb | exact Below.next (below_drew _) bb); obtain ⟨q0, q1⟩ := unveil HD _ b5) | fail
      all_goals (try go_wp2_with fail)
      all_goals go_meet
      all_goals exact ⟨rfl, b5⟩
    case rest =>
      obtain ⟨rfl, b7⟩ := hcut
      have H3 := (unveil HH).next b7
      obtain ⟨q0, q1⟩ := unveil HD _ b7
      obtain ⟨p0, p1⟩ := H3.p.cells
      have pf := H3.p.free
      go_wp2
      obtain ⟨o, b⟩ := H3.out x y
      refine bodyPost_ret (ret_Where o rfl rfl) rfl ⟨x, y, 0, rfl, ?_, b⟩
      have := WhereR.here ok k hk rfl (fun h => hn ((unveil HX).1.symm.trans h))
      rw [(unveil HX).1, (unveil HX).2] at this
      exact this
end Go.Proofs.Ytkeipknbcjkomab
